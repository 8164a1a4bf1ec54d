/- keys that have seen a counter, too: the program's. -/
import Derived.Test.YteikggieekhfkaaSeenM
import Derived.Deep.QuietTactic
import Derived.Deep.LoopGhost
import Derived.BigQuiet
import Derived.Deep.DeepCutAuto
namespace Go.Proofs.Yteikggieekhfkaa
open Go.RowKit

theorem IR.othr {w : World} {B g k : Nat} {A : Option Addr} {l : List Int} {u : Value} (h : IR w B A l) (hA : ∀ ad, A = some ad → ad.block ≠ g) : IR (w.setCell ⟨g, k, none⟩ u) B A l := by
  rcases h with e | ⟨ad, e, hl, hc⟩
  · exact .inl e
  · refine .inr ⟨ad, e, hl, fun j v hv => ?_⟩
    rw [← hc j v hv]
    exact World.cell?_of_block (w := w) (Below.heap_setCell w ⟨g, k, none⟩ u _ (by rw [add_block]; exact hA ad e))
def SeenPost (key : Int) (r : Int × List Int) (w : World) (e : Ending) (w' : World) : Prop :=
  ∃ A c, e = .returned (kyV key r.1 (.slice A r.2.length c)) ∧ IR w' w'.heap.size A r.2 ∧ r.2.length ≤ c ∧ (A = none → c = 0) ∧ (∀ ad, A = some ad → w.heap.size < ad.block) ∧ Below w.heap.size w w'
/-- how the loop stands -/
def SeenAt (key : Int) (R : Int × List Int) (least : Int) (L : List Int) (P : Nat) (W : World) (j : Nat) (w : World) : Prop :=
  ∃ A c, Blk w P (kyC key (least + (j : Int)) (.slice A (L.length - j) c)) 58 ∧ Blk w (P + 1) (kyC 0 0 (.slice none 0 0)) 58 ∧ IR w w.heap.size A (L.drop j) ∧ L.length - j ≤ c ∧ c ≤ maxLen ∧ (A = none → c = 0) ∧ (∀ ad, A = some ad → P + 1 < ad.block) ∧ R = strip (least + (j : Int)) (L.drop j) ∧ Below P W w
theorem SeenAt.next {key : Int} {R : Int × List Int} {least : Int} {L : List Int} {P : Nat} {W w : World} {j nq m m' c c' : Nat} {ls : Int} {A A' : Option Addr} (gK : Blk w P (kyC key ls (.slice A m c)) 58) (gZ : Blk w (P + 1) (kyC 0 0 (.slice none 0 0)) 58) (hls : least + (j : Int) = ls) (hm : L.length - (j + 1) = m')
    (hr : IR w w.heap.size A' (L.drop (j + 1))) (hlc : m' ≤ c') (hcm : c' ≤ maxLen) (hn : A' = none → c' = 0) (hf : ∀ ad, A' = some ad → P + 1 < ad.block) (hR : R = strip (ls + 1) (L.drop (j + 1))) (hb : Below P W w) :
    SeenAt key R least L P W (j + 1) (((w.drewN nq).setCell ⟨P, 2, none⟩ (.slice A' m' c')).setCell ⟨P, 1, none⟩ (.int .i64 (ls + 1))) := by
  have hl : least + ((j + 1 : Nat) : Int) = ls + 1 := by omega
  have hrd : IR (w.drewN nq) (w.drewN nq).heap.size A' (L.drop (j + 1)) := hr
  refine ⟨A', c', ?_, ((gZ.drew nq).other (by omega)).other (by omega), ((hrd.othr (fun ad e => by have := hf ad e; omega)).othr (fun ad e => by have := hf ad e; omega)).lift (by simp), by rw [hm]; exact hlc, hcm, hn, hf, by rw [hl]; exact hR, ((below_draws hb nq).setCell (Nat.le_refl _) _).setCell (Nat.le_refl _) _⟩
  rw [hl, hm]
  exact ((gK.drew nq).set1 2 (.slice A' m' c')).set1 1 (.int .i64 (ls + 1))
theorem SeenAt.ret {key ls : Int} {L : List Int} {P : Nat} {W w : World} {j m c n : Nat} {A : Option Addr} {u0 u1 u2 : Value} (hm : (L.drop j).length = m) (hr : IR w w.heap.size A (L.drop j)) (hlc : m ≤ c) (hn : A = none → c = 0) (hf : ∀ ad, A = some ad → P + 1 < ad.block) (hP : P = W.heap.size) (hb : Below P W w) :
    SeenPost key (ls, L.drop j) W (.returned (.agg #[.int .i64 key, .int .i64 ls, .slice A m c])) ((((w.drewN n).setCell ⟨P + 1, 0, none⟩ u0).setCell ⟨P + 1, 1, none⟩ u1).setCell ⟨P + 1, 2, none⟩ u2) := by
  subst hP
  subst hm
  have hrd : IR (w.drewN n) (w.drewN n).heap.size A (L.drop j) := hr
  have hne : ∀ ad, A = some ad → ad.block ≠ W.heap.size + 1 := fun ad e => by have := hf ad e; omega
  exact ⟨A, c, rfl, (((hrd.othr hne).othr hne).othr hne).lift (by simp), hlc, hn, (fun ad e => by have := hf ad e; omega), (((below_draws hb n).setCell (Nat.le_succ _) _).setCell (Nat.le_succ _) _).setCell (Nat.le_succ _) _⟩
set_option maxRecDepth 100000 in
set_option maxHeartbeats 4000000 in
theorem p_seen_any (key least n : Int) (SA : Option Addr) (l : List Int) (sc B : Nat) (w : World) (hB : B ≤ w.heap.size) (hll : l.length ≤ 1000) (hs : Asc l) (hA : SA = none → sc = 0) (hb0 : 0 ≤ least) (hb1 : least ≤ 4000000000) (hS : IR w B SA l) :
    Calls Try.prog 76 #[kyV key least (.slice SA l.length sc), .int .i64 n] w (SeenPost key (seenS least l n) w) := by
  have HR := Lib.hid (show seenS least l n = strip least (insL l (place l n) n) from rfl)
  generalize seenS least l n = R at *
  have hpl := place_le l n
  obtain ⟨L, hL⟩ : ∃ L, insL l (place l n) n = L := ⟨_, rfl⟩
  have hLl : L.length ≤ 1001 := by rw [← hL, insL_len _ _ _ hpl]; omega
  rw [hL] at HR
  unfold kyV
  obtain ⟨w1, hw1⟩ : ∃ w1, (w.alloc (.cells (kyC key least (.slice SA l.length sc)) 58)).alloc (.cells (kyC 0 0 (.slice none 0 0)) 58) = w1 := ⟨_, rfl⟩
  have b1 : Below w.heap.size w w1 := by rw [← hw1]; exact two_new w _ _
  have z1 : w1.heap.size = w.heap.size + 2 := by rw [← hw1]; simp
  have g0 : Blk w1 w.heap.size (kyC key least (.slice SA l.length sc)) 58 := by rw [← hw1]; exact (Blk.new w _ _).alloc _
  have g1 : Blk w1 (w.heap.size + 1) (kyC 0 0 (.slice none 0 0)) 58 := by rw [← hw1]; exact Blk.snd w _ _ _
  have hS1 := hS.below (b1.mono hB)
  have hB1 := Nat.le_trans hB b1.size
  have HSR := Lib.hid (search_any SA l sc n B w1 (by omega) hs hS1)
  have HCL := Lib.hid (cloneO_any SA sc l B w1 hA (by omega) hB1 hS1)
  unfold kyC at hw1
  have HW1 := Lib.hid hw1
  obtain ⟨p0, p1, p2⟩ := blk_k g0
  obtain ⟨pl, hple⟩ : ∃ pl, place l n = pl := ⟨_, rfl⟩
  rw [hple] at HSR hL hpl
  have HL := Lib.hid hL
  clear hw1 hS hs hL hple hS1
  go_enter Try.func76, Try.ntmps76
  go_upto_region 1 with fail
  rw [HW1.out]
  go_wp2_with fail
  refine HSR.out.mono ?_
  rintro e w' ⟨f, rfl, rfl⟩
  go_wp2_with fail
  refine HCL.out.mono ?_
  rintro e w2 ⟨v2, rfl, ho2, hb2⟩
  have g02 := g0.below hb2 g0.lt
  have g12 := g1.below hb2 g1.lt
  obtain ⟨w3, hw3⟩ : ∃ w3, w2.alloc (.cells #[.int .i64 n] 3) = w3 := ⟨_, rfl⟩
  have b3 : Below w2.heap.size w2 w3 := by rw [← hw3]; exact (Below.refl _ _).alloc (Nat.le_refl _) _
  have gx : Blk w3 w2.heap.size #[.int .i64 n] 3 := by rw [← hw3]; exact Blk.new w2 _ _
  have ho3 := ho2.after b3 (Nat.le_refl _)
  have g03 := g02.below b3 g02.lt
  have g13 := g12.below b3 g12.lt
  have hz2 := hb2.size
  have hz3 := b3.size
  have HIN := Lib.hid (insert_any v2 l pl n w1.heap.size w2.heap.size w3 ho3 hpl (by omega) gx (fun e => by have := (World.ownsRow.lt ho2 _ e).2; omega) (by omega))
  have HLT := Lib.hid (fun k (hk : v2.ownBlock = some k) => (World.ownsRow.lt ho3 k hk).1)
  rw [HL.out] at HIN
  have HW3 := Lib.hid hw3
  have B3 := b1.trans ((hb2.trans (b3.mono hz2)).mono b1.size)
  clear hw3 p0 p1 p2 HSR HCL HW1 ho2 ho3 gx g0 g1 g02 g12 b3 hb2 b1
  obtain ⟨p0, p1, p2⟩ := blk_k g03
  go_wp2_with fail
  rw [HW3.out]
  refine HIN.out.mono ?_
  rintro e w4 ⟨v4, rfl, ho4, hn4⟩
  have b4 : Below w1.heap.size w3 w4 := (Below.refl _ _).grown hn4.1 (by omega) HLT.out
  have g04 := g03.below b4 (by omega)
  have g14 := g13.below b4 (by omega)
  have B4 := B3.trans (b4.mono (by omega))
  have hz4 := hn4.1.size
  obtain ⟨A4, c4, rfl, hr4, hlc4, hcm4, hA4, hfr4⟩ := ho4.form2
  have hfa : ∀ ad, A4 = some ad → ad.block ≠ w.heap.size := fun ad e => by have := hfr4 ad e; omega
  obtain ⟨w5, hw5⟩ : ∃ w5, w4.setCell ⟨w.heap.size, 2, none⟩ (.slice A4 L.length c4) = w5 := ⟨_, rfl⟩
  have hz5 : w5.heap.size = w4.heap.size := by rw [← hw5]; simp
  have hAt : SeenAt key R least L w.heap.size w 0 w5 := by
    rw [← hw5]
    refine ⟨A4, c4, ?_, g14.other (by omega), by rw [List.drop_zero]; exact (hr4.othr hfa).lift (by simp), by rw [Nat.sub_zero]; exact hlc4, hcm4, hA4, fun ad e => by have := hfr4 ad e; omega, ?_, B4.setCell (Nat.le_refl _) _⟩
    · have := g04.set1 2 (.slice A4 L.length c4)
      rw [Nat.sub_zero, show least + ((0 : Nat) : Int) = least by omega]
      exact this
    · rw [HR.out, List.drop_zero, show least + ((0 : Nat) : Int) = least by omega]
  have HAT := Lib.hid hAt
  have HW5 := Lib.hid hw5
  have f2 := g04.free 2
  clear hAt hw5 hr4 ho4 hn4 hfr4 hfa b4 HIN HW3 HLT p0 p1 p2
  obtain ⟨p0, p1, p2⟩ := blk_k g04
  go_wp2_with fail
  rw [HW5.out]
  clear p0 p1 p2 f2 g03 g13 g04 g14 HR HL B3 B4
  go_loopg [] L.length (fun g wr => ∃ j : Nat, j ≤ L.length ∧ L.length - j ≤ g ∧ SeenAt key R least L w.heap.size w j wr)
  case atStart => exact ⟨0, Nat.zero_le _, by omega, HAT.out⟩
  case round =>
    obtain ⟨j, hj, hg, A2, c2, gK, gZ, hr, hlc, hcm, hn, hf, hR, hBW⟩ := hrel
    obtain ⟨p0, p1, p2⟩ := blk_k gK
    have hmx : c2 ≤ 9223372036854775807 := by unfold maxLen at hcm; exact hcm
    by_cases hlt : j < L.length
    · have hd0 : 0 < (L.drop j).length := by simp; omega
      obtain ⟨ad, rfl, -, hc⟩ := hr.get 0 hd0
      rw [addr_zero] at hc
      have hgd : (L.drop j)[0] = L[j] := by simp
      rw [hgd] at hc
      rw [strip_step _ L j hlt] at hR
      have hi0 : (0 : Int) < ((L.length - j : Nat) : Int) := by omega
      have hi1 : 0 < L.length - j := by omega
      have hpb := hf ad rfl
      obtain ⟨m, hm⟩ : ∃ m, L.length - j = m := ⟨_, rfl⟩
      rw [hm] at p2 hi0 hi1 hlc
      obtain ⟨y, hy⟩ : ∃ y, L[j] = y := ⟨_, rfl⟩
      rw [hy] at hc hR
      obtain ⟨ls, hls⟩ : ∃ ls, least + (j : Int) = ls := ⟨_, rfl⟩
      rw [hls] at p1 hR
      have hls1 : 0 ≤ ls ∧ ls ≤ 4000001001 := by omega
      obtain ⟨hla, hlb⟩ := hls1
      have HM := Lib.hid hm
      have HLS := Lib.hid hls
      by_cases heq : y = ls
      · have d1 : (y == ls) = true := by simpa using heq
        rw [if_pos heq] at hR
        have HRR := Lib.hid hR
        have HRW := Lib.hid hr
        have f1 := gK.free 1
        have f2 := gK.free 2
        have hmc : m ≤ c2 := hlc
        rw [hls, hm] at gK
        have HRT := Lib.hid (IR.tail1 HRW.out (show (L.drop j).length ≤ c2 by simp; omega))
        rw [List.drop_drop] at HRT
        clear heq hR hr hm hls hy hgd hd0
        by_cases hc1 : c2 = 1
        · subst hc1
          rw [if_pos rfl] at HRT
          go_wp2_with fail
          go_quiet (fail)
          go_wp2_with fail
          go_roundg (L.length - (j + 1))
          case measure => have := HM.out; omega
          case rel =>
            refine ⟨j + 1, hlt, Nat.le_refl _, ?_⟩
            exact SeenAt.next gK gZ HLS.out (by have := HM.out; omega) HRT.out (by omega) (by simp [maxLen]) (fun e => by cases e) (fun ad e => by injection e with e; subst e; exact hpb) HRR.out hBW
        · rw [if_neg hc1] at HRT
          go_wp2_with fail
          go_quiet (fail)
          go_wp2_with fail
          go_roundg (L.length - (j + 1))
          case measure => have := HM.out; omega
          case rel =>
            refine ⟨j + 1, hlt, Nat.le_refl _, ?_⟩
            exact SeenAt.next gK gZ HLS.out (by have := HM.out; omega) HRT.out (by omega) (by unfold maxLen; omega) (fun e => by cases e) (fun ad e => by injection e with e; subst e; exact hpb) HRR.out hBW
      · have d1 : (y == ls) = false := by simpa using heq
        rw [if_neg heq] at hR
        have HRR := Lib.hid hR
        have HRW := Lib.hid hr
        obtain ⟨q0, q1, q2⟩ := blk_k gZ
        obtain ⟨e0, e1, e2, -, -, -⟩ := blk_f gZ
        clear heq hR hr hm hls hy hgd hd0
        go_wp2_with fail
        go_quiet (fail)
        go_wp2_with fail
        refine bodyPost_ret (v := .agg #[.int .i64 key, .int .i64 ls, .slice (some ad) m c2]) (by simp [results, Try.results76, go_sem, q0, q1, q2]) rfl ?_
        rw [HRR.out]

        exact SeenAt.ret (by have := HM.out; simp; omega) HRW.out hlc (fun e => by cases e) (fun ad e => by injection e with e; subst e; exact hpb) rfl hBW
    · have hj0 : L.length - j = 0 := by omega
      have hjl : L.length ≤ j := by omega
      rw [strip_end _ L j hjl] at hR
      have HRR := Lib.hid hR
      have HRW := Lib.hid hr
      have HJ := Lib.hid hjl
      obtain ⟨ls, hls⟩ : ∃ ls, least + (j : Int) = ls := ⟨_, rfl⟩
      rw [hj0] at p2
      rw [hls] at p1
      have HLS := Lib.hid hls
      have hmc : 0 ≤ c2 := Nat.zero_le _
      obtain ⟨q0, q1, q2⟩ := blk_k gZ
      obtain ⟨e0, e1, e2, -, -, -⟩ := blk_f gZ
      clear hR hr hls hlt hj0
      go_wp2_with fail
      go_quiet (fail)
      go_wp2_with fail
      refine bodyPost_ret (v := .agg #[.int .i64 key, .int .i64 ls, .slice A2 0 c2]) (by simp [results, Try.results76, go_sem, q0, q1, q2]) rfl ?_
      rw [HRR.out, HLS.out, ← List.drop_of_length_le HJ.out]

      exact SeenAt.ret (by have := HJ.out; simp; omega) HRW.out hmc hn hf rfl hBW
end Go.Proofs.Yteikggieekhfkaa
