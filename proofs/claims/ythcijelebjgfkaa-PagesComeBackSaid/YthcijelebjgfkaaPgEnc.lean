/- the bytes of a page, by the program. -/
import Derived.Test.YthcijelebjgfkaaPgW2
import Derived.Test.YthcijelebjgfkaaSum
import Derived.Lib.AppendStr
namespace Go.Proofs.Ythcijelebjgfkaa
open Go.RowKit

def pgV (x : Pg) (A : Option Addr) (c : Nat) : Value := .agg #[.int .i64 x.gen, .bool x.gone, .string x.name, .int .i64 x.ix, .bool x.last, .slice A x.bytes.length c]
theorem strCells_bv (s : ByteArray) : Lib.strCells s = s.data.toList.map bv := rfl
theorem bv_duo (k : UInt8) (z : Int) (n : Nat) (hk : z = (k.toNat : Int)) (hn : n < 256) : [k, UInt8.ofNat n].map bv = [.int .u8 z, .int .u8 (n : Int)] := by
  subst hk
  simp [bv]
  omega
theorem fill_snoc (k : Nat) (P : List UInt8) : (P ++ List.replicate k 255) ++ [255] = P ++ List.replicate (k + 1) 255 := by
  rw [List.append_assoc, List.replicate_succ']
set_option maxRecDepth 100000 in
set_option maxHeartbeats 4000000 in
theorem pageBytes_any (ps G I : Nat) (gone last : Bool) (nm : ByteArray) (b : List UInt8) (A : Option Addr) (c : Nat) (w : World) (hp : 64 ≤ ps ∧ ps ≤ 1024) (hG : G ≤ 4000000000) (hI : I ≤ 65535) (hn : nm.size ≤ 32) (hl : nm.size + b.length + 15 ≤ ps) (h : BR w w.heap.size A b) :
    Calls Try.prog 45 #[.int .i64 ps, pgV ⟨G, gone, nm, I, last, b⟩ A c] w fun e w' => ∃ v, e = .returned v ∧ Own w' w.heap.size v (pgB ps ⟨G, gone, nm, I, last, b⟩) ∧ Below w.heap.size w w' := by
  obtain ⟨_, i0, z0, hi, hz0, hz1, hz2, hz3, -⟩ := elem8
  have hz00 : z0 = .int .u8 0 := by
    obtain ⟨i1, a1, a2, a3, a4⟩ := info_parts info5
    rw [hi] at a1
    injection a1 with a1
    subst a1
    rw [hz0] at a2
    injection a2
  have HZZ := Lib.hid hz00
  have HZ := Lib.hid hz0
  have HZ1 := Lib.hid hz1
  have HZ2 := Lib.hid hz2
  have HI := Lib.hid hi
  clear hz0 hz1 hz2 hz3 hi hz00
  have hHl := pgHead_len ⟨G, gone, nm, I, last, b⟩
  have hHd : pgHead ⟨G, gone, nm, I, last, b⟩ = ((((((bigE G 4 ++ [kindU ⟨G, gone, nm, I, last, b⟩, UInt8.ofNat nm.size]) ++ bigE I 2) ++ bigE b.length 2) ++ [lastU ⟨G, gone, nm, I, last, b⟩, UInt8.ofNat 0]) ++ nm.data.toList) ++ b) := by simp [pgHead]
  have HPB : Hid (pgB ps ⟨G, gone, nm, I, last, b⟩ = (pgHead ⟨G, gone, nm, I, last, b⟩ ++ List.replicate (ps - 3 - (pgHead ⟨G, gone, nm, I, last, b⟩).length) 255) ++ (bigE (crcN (pgHead ⟨G, gone, nm, I, last, b⟩ ++ List.replicate (ps - 3 - (pgHead ⟨G, gone, nm, I, last, b⟩).length) 255)) 2 ++ [165])) := rfl
  have HPR := Lib.hid (bv_duo (kindU ⟨G, gone, nm, I, last, b⟩) _ nm.size rfl (by omega))
  have HPL := Lib.hid (bv_duo (lastU ⟨G, gone, nm, I, last, b⟩) _ 0 rfl (by omega))
  have HK : Hid (kindU ⟨G, gone, nm, I, last, b⟩ = if gone then 2 else 1) := rfl
  have HLU : Hid (lastU ⟨G, gone, nm, I, last, b⟩ = if last then 1 else 0) := rfl
  unfold pgV
  dsimp only
  generalize pgB ps ⟨G, gone, nm, I, last, b⟩ = PB at *
  generalize pgHead ⟨G, gone, nm, I, last, b⟩ = PH at *
  generalize kindU ⟨G, gone, nm, I, last, b⟩ = KU at *
  generalize lastU ⟨G, gone, nm, I, last, b⟩ = LU at *
  have HHl : Hid (PH.length = 12 + nm.size + b.length) := Lib.hid hHl
  have HHd := Lib.hid hHd
  clear hHl hHd
  obtain ⟨hp1, hp2⟩ := hp
  obtain ⟨B4, hB4⟩ : ∃ B4, bigE G 4 = B4 := ⟨_, rfl⟩
  obtain ⟨BI, hBI⟩ : ∃ BI, bigE I 2 = BI := ⟨_, rfl⟩
  obtain ⟨BN, hBN⟩ : ∃ BN, bigE b.length 2 = BN := ⟨_, rfl⟩
  have l4 : B4.length ≤ 4 := by rw [← hB4, bigE_len]; omega
  have lI : BI.length ≤ 2 := by rw [← hBI, bigE_len]; omega
  have lN : BN.length ≤ 2 := by rw [← hBN, bigE_len]; omega
  have lS : nm.data.toList.length = nm.size := rfl
  have A4 := Lib.hid (fun base v w (hb : base ≤ w.heap.size) ho => append_any base v [] G 4 w (by omega) (by omega) (by simp) hb ho)
  have AI := Lib.hid (fun base v l w (hl : l.length ≤ 1000000) (hb : base ≤ w.heap.size) ho => append_any base v l I 2 w (by omega) (by omega) hl hb ho)
  have AN := Lib.hid (fun base v l w (hl : l.length ≤ 1000000) (hb : base ≤ w.heap.size) ho => append_any base v l b.length 2 w (by omega) (by omega) hl hb ho)
  rw [hB4] at A4 HHd
  rw [hBI] at AI HHd
  rw [hBN] at AN HHd
  have LS := Lib.hid lS
  clear hB4 hBI hBN lS
  cases gone <;> cases last
  all_goals
    simp only [Bool.false_eq_true, if_true, if_false] at HK HLU
    have hku := HK.out
    have hlu := HLU.out
    have HPR2 := HPR.out
    have HPL2 := HPL.out
    rw [hku] at HPR2 HHd
    rw [hlu] at HPL2 HHd
    have HPR3 := Lib.hid HPR2
    have HPL3 := Lib.hid HPL2
    clear HPR2 HPL2 hku hlu HPR HPL HK HLU
    go_enter Try.func45, Try.ntmps45
    go_wp2_with (first | (at_make; refine wpList_make_own _ rfl _ _ 22 rfl (w.heap.size + 1) 5 i0 z0 1 Try.underlying22 HI.out HZ.out HZ1.out .i64 .i64 _ ps rfl rfl (by omega) (by rw [HZ2.out]; omega) (by unfold maxLen; omega) (by simp) ?_; intro w2 hown2 hgrow2; have hb2 := (Below.refl (w.heap.size + 1) _).grown hgrow2 (by simp) (fun k hk => by cases hk); have hs2 : w.heap.size + 1 ≤ w2.heap.size := (by have := hgrow2.size; simpa using this); have hc2 := fun k => Below.at_ hb2 w.heap.size (by omega) k; clear hgrow2) | fail)
    have ho2 : Own w2 (w.heap.size + 1) (.slice (some ⟨w.heap.size + 1, 0, none⟩) 0 ps) [] := by
      simp only [World.size_alloc] at hown2
      exact hown2
    clear hown2
    refine (A4.out _ _ _ hs2 ho2).mono ?_
    rintro e w3 ⟨v3, rfl, ho3, hn3⟩
    have hb3 := hn3.below ho2 hb2 hs2
    have hs3 : w.heap.size + 1 ≤ w3.heap.size := by have := hn3.1.size; omega
    have hc3 := fun k => Below.at_ hb3 w.heap.size (by simp) k
    clear hn3 ho2 hb2 hc2
    rw [List.nil_append] at ho3
    go_wp2_with (first | (at_builtin; refine wpList_app _ rfl (.tmp 18) (.tmp 24) 22 5 1 1 rfl elem8 (w.heap.size + 1) v3 _ _ rfl (World.ownsRow.alloc ho3 _) (w3.heap.size + 1) _ 2 2 _ rfl rfl (Cells.fresh w3 _ 5 _ _ (by rw [HPR3.out]; rfl)) (bv_one _) (by unfold maxLen; omega) (by omega) (by simp; omega) ?_; intro v4 w4 hown4 hgrow4 hat4; have hb4 := (hb3.alloc hs3 _).grown hgrow4 (by simp; omega) (fun k hk => (ho3.lt k hk).1); have hs4 : w.heap.size + 1 ≤ w4.heap.size := (by have := hgrow4.size; simp at this; omega); have hc4 := fun k => Below.at_ hb4 w.heap.size (by simp) k) | fail)
    have ho4 := Own.of hown4 rfl
    clear hown4 hgrow4 hat4 ho3 hb3 hc3
    refine (AI.out _ _ _ _ (by simp; omega) hs4 ho4).mono ?_
    rintro e w5 ⟨v5, rfl, ho5, hn5⟩
    have hb5 := hn5.below ho4 hb4 hs4
    have hs5 : w.heap.size + 1 ≤ w5.heap.size := by have := hn5.1.size; omega
    have hc5 := fun k => Below.at_ hb5 w.heap.size (by simp) k
    clear hn5 ho4 hb4 hc4
    go_wp2_with fail
    refine (AN.out _ _ _ _ (by simp; omega) hs5 ho5).mono ?_
    rintro e w6 ⟨v6, rfl, ho6, hn6⟩
    have hb6 := hn6.below ho5 hb5 hs5
    have hs6 : w.heap.size + 1 ≤ w6.heap.size := by have := hn6.1.size; omega
    have hc6 := fun k => Below.at_ hb6 w.heap.size (by simp) k
    clear hn6 ho5 hb5 hc5
    go_wp2_with (first
      | (at_builtin; refine wpList_app _ rfl (.tmp 35) (.tmp 37) 22 5 1 1 rfl elem8 (w.heap.size + 1) v6 _ _ rfl (World.ownsRow.alloc ho6 _) (w6.heap.size + 1) _ 2 2 _ rfl rfl (Cells.fresh w6 _ 5 _ _ (by rw [HPL3.out]; rfl)) (bv_one _) (by simp [maxLen]; omega) (by simp; omega) (by simp; omega) ?_; intro v7 w7 hown7 hgrow7 hat7; have hb7 := (hb6.alloc hs6 _).grown hgrow7 (by simp; omega) (fun k hk => (ho6.lt k hk).1); have hs7 : w.heap.size + 1 ≤ w7.heap.size := (by have := hgrow7.size; simp at this; omega); have hc7 := fun k => Below.at_ hb7 w.heap.size (by simp) k; have ho7 := Own.of hown7 rfl; clear hown7 hgrow7 hat7)
      | (at_builtin; refine Lib.wpList_append_own_string _ rfl (.tmp 39) (.tmp 41) 22 9 rfl (w.heap.size + 1) 5 i0 Try.underlying22 Try.underlying9 HI.out (by rw [HZ.out, HZZ.out]) HZ1.out HZ2.out v7 _ _ rfl ho7 nm rfl (by simp [maxLen]; omega) (by simp; omega) hs7 ?_; intro v8 w8 hown8 hgrow8 hat8; have hb8 := hb7.grown hgrow8 hs7 (fun k hk => (ho7.lt k hk).1); have hs8 : w.heap.size + 1 ≤ w8.heap.size := (by have := hgrow8.size; omega); have hc8 := fun k => Below.at_ hb8 w.heap.size (by simp) k; have ho8 := Own.of (b := nm.data.toList) hown8 rfl; clear hown8 hgrow8 hat8)
      | (at_builtin; refine wpList_app _ rfl (.tmp 43) (.tmp 45) 22 5 1 1 rfl elem8 (w.heap.size + 1) v8 _ _ rfl ho8 w.heap.size A b.length c (b.map bv) rfl (by simp) (h.below (((Below.refl _ _).alloc (Nat.le_refl _) _).trans (hb8.mono (by omega)))) (bv_one _) (by have := LS.out; simp [maxLen] at this ⊢; omega) (by have := LS.out; simp at this ⊢; omega) hs8 ?_; intro v9 w9 hown9 hgrow9 hat9; have hb9 := hb8.grown hgrow9 hs8 (fun k hk => (ho8.lt k hk).1); have hs9 : w.heap.size + 1 ≤ w9.heap.size := (by have := hgrow9.size; omega); have ho9 := Own.of hown9 rfl; clear hown9 hgrow9 hat9)
      | fail)
    rw [← HHd.out] at ho9
    clear ho8 ho7 ho6 hc8 hc7 hc6 hb8 hb7 hb6
    have hPHl := HHl.out
    have hFL : PH.length ≤ ps - 3 := by omega
    clear hPHl
    go_loopw [7] (fun u wr => ∃ k : Nat, PH.length + k ≤ ps - 3 ∧ Own wr (w.heap.size + 1) u (PH ++ List.replicate k 255) ∧ Below (w.heap.size + 1) (w.alloc (.cells #[.int .i64 G, .bool _, .string nm, .int .i64 I, .bool _, .slice A b.length c] 40)) wr) (fun u _ => ps - (match u with | .slice _ n _ => n | _ => 0))
    case atStart => exact ⟨0, by omega, by simpa using ho9, hb9⟩
    case round =>
      obtain ⟨k, hk, ho, hb⟩ := hrel
      obtain ⟨A2, c2, rfl, hB2⟩ := ho.form
      have hLl : (PH ++ List.replicate k 255).length = PH.length + k := by simp
      have HFS := Lib.hid (fill_snoc k PH)
      have HPB2 : Hid (ps - 3 = PH.length + k → PB = (PH ++ List.replicate k 255) ++ (bigE (crcN (PH ++ List.replicate k 255)) 2 ++ [165])) := Lib.hid (fun e => by rw [HPB.out, e, Nat.add_sub_cancel_left])
      have hs := hb.size
      simp only [World.size_alloc] at hs
      have hsm := sum_any A2 c2 (PH ++ List.replicate k 255) wr.heap.size wr (by rw [hLl]; omega) hB2
      unfold crc at hsm
      have HSM := Lib.hid hsm
      have HHL := Lib.hid hLl
      clear hB2 hsm
      generalize PH ++ List.replicate k 255 = L at *
      have hLb : L.length ≤ ps - 3 := by omega
      by_cases hlt : PH.length + k < ps - 3
      · have hlt2 : L.length < ps - 3 := by omega
        have d1 : decide ((L.length : Int) < (ps : Int) - 3) = true := decide_eq_true (by omega)
        clear hLl
        go_wp2_with (first | (at_builtin; refine wpList_app _ rfl (.tmp 52) (.tmp 53) 22 5 1 1 rfl elem8 (w.heap.size + 1) (.slice A2 L.length c2) _ _ rfl (World.ownsRow.alloc ho _) (wr.heap.size + 1) _ 1 1 ([255].map bv) rfl rfl (Cells.fresh wr _ 5 _ _ rfl) (bv_one _) (by unfold maxLen; omega) (by omega) (by simp; omega) ?_; intro v3 w3 hown3 hgrow3 hat3) | fail)
        have ho3 := Own.of (b := [255]) hown3 rfl
        rw [HFS.out] at ho3
        have hb3 := (hb.alloc hs _).grown hgrow3 (by simp; omega) (fun k hk => (ho.lt k hk).1)
        have h3l : (PH ++ List.replicate (k + 1) 255).length = L.length + 1 := by have := HHL.out; simp; omega
        obtain ⟨A3, c3, rfl, -⟩ := ho3.form
        go_roundw
        case rel => exact ⟨k + 1, by omega, ho3, hb3⟩
        case measure => rw [h3l]; dsimp only; omega
      · have d1 : decide ((L.length : Int) < (ps : Int) - 3) = false := decide_eq_false (by omega)
        have HPE := Lib.hid (HPB2.out (by omega))
        clear hLl
        go_wp2_with fail
        refine (HSM.out).mono ?_
        rintro e w' ⟨rfl, rfl⟩
        go_wp2_with fail
        refine (append_any _ _ L (crcN L) 2 _ (by have := crcN_lt L; omega) (by omega) (by omega) hs ho).mono ?_
        rintro e w3 ⟨v3, rfl, ho3, hn3⟩
        have hb3 := hn3.below ho hb hs
        have hs3 : w.heap.size + 1 ≤ w3.heap.size := by have := hn3.1.size; omega
        have hL3 : (L ++ bigE (crcN L) 2).length ≤ 2000 := by rw [List.length_append, bigE_len]; omega
        have HL3 := Lib.hid hL3
        clear hL3
        go_wp2_with (first | (at_builtin; refine wpList_app _ rfl (.tmp 59) (.tmp 60) 22 5 1 1 rfl elem8 (w.heap.size + 1) v3 _ _ rfl (World.ownsRow.alloc ho3 _) (w3.heap.size + 1) _ 1 1 ([165].map bv) rfl rfl (Cells.fresh w3 _ 5 _ _ rfl) (bv_one _) (by have := HL3.out; unfold maxLen; omega) (by have := HL3.out; omega) (by simp; omega) ?_; intro v4 w4 hown4 hgrow4 hat4) | fail)
        have ho4 := Own.of (b := [165]) hown4 rfl
        have hb4 := (hb3.alloc hs3 _).grown hgrow4 (by simp; omega) (fun k hk => (ho3.lt k hk).1)
        go_ret
        refine ⟨v4, rfl, ?_, ((Below.refl _ _).alloc (Nat.le_refl _) _).trans (hb4.mono (by omega))⟩
        rw [HPE.out, ← List.append_assoc]
        exact ho4.lower (by omega)
end Go.Proofs.Ythcijelebjgfkaa
