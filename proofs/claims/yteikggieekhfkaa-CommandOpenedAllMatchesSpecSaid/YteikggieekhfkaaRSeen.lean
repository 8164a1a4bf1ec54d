/- keys that have seen a counter, too: the reference's. -/
import Derived.Test.YteikggieekhfkaaSeen
namespace Go.Proofs.Yteikggieekhfkaa
open Go.RowKit

/-- how the reference's second loop stands -/
def RSeenAt (key : Int) (R : Int × List Int) (least : Int) (Sv : Value) (L : List Int) (P : Nat) (W : World) (j : Nat) (v : Value) (w : World) : Prop :=
  ∃ A c, v = .slice A (L.length - j) c ∧ Blk w P (kyC key (least + (j : Int)) Sv) 58 ∧ Blk w (P + 1) (kyC 0 0 (.slice none 0 0)) 58 ∧ IR w w.heap.size A (L.drop j) ∧ L.length - j ≤ c ∧ c ≤ maxLen ∧ (A = none → c = 0) ∧ (∀ ad, A = some ad → P + 1 < ad.block) ∧ R = strip (least + (j : Int)) (L.drop j) ∧ Below P W w
theorem RSeenAt.next {key : Int} {R : Int × List Int} {least : Int} {Sv : Value} {L : List Int} {P : Nat} {W w : World} {j nq m' c' : Nat} {ls : Int} {A' : Option Addr} (gK : Blk w P (kyC key ls Sv) 58) (gZ : Blk w (P + 1) (kyC 0 0 (.slice none 0 0)) 58) (hls : least + (j : Int) = ls) (hm : L.length - (j + 1) = m')
    (hr : IR w w.heap.size A' (L.drop (j + 1))) (hlc : m' ≤ c') (hcm : c' ≤ maxLen) (hn : A' = none → c' = 0) (hf : ∀ ad, A' = some ad → P + 1 < ad.block) (hR : R = strip (ls + 1) (L.drop (j + 1))) (hb : Below P W w) :
    RSeenAt key R least Sv L P W (j + 1) (.slice A' m' c') ((w.drewN nq).setCell ⟨P, 1, none⟩ (.int .i64 (ls + 1))) := by
  have hl : least + ((j + 1 : Nat) : Int) = ls + 1 := by omega
  have hrd : IR (w.drewN nq) (w.drewN nq).heap.size A' (L.drop (j + 1)) := hr
  refine ⟨A', c', by rw [hm], ?_, (gZ.drew nq).other (by omega), (hrd.othr (fun ad e => by have := hf ad e; omega)).lift (by simp), by rw [hm]; exact hlc, hcm, hn, hf, by rw [hl]; exact hR, (below_draws hb nq).setCell (Nat.le_refl _) _⟩
  rw [hl]
  exact (gK.drew nq).set1 1 (.int .i64 (ls + 1))
theorem RSeenAt.ret {key ls : Int} {L : List Int} {P : Nat} {W w : World} {j m c n : Nat} {A : Option Addr} {u u0 u1 u2 : Value} (hm : (L.drop j).length = m) (hr : IR w w.heap.size A (L.drop j)) (hlc : m ≤ c) (hn : A = none → c = 0) (hf : ∀ ad, A = some ad → P + 1 < ad.block) (hP : P = W.heap.size) (hb : Below P W w) :
    SeenPost key (ls, L.drop j) W (.returned (.agg #[.int .i64 key, .int .i64 ls, .slice A m c])) (((((w.drewN n).setCell ⟨P, 2, none⟩ u).setCell ⟨P + 1, 0, none⟩ u0).setCell ⟨P + 1, 1, none⟩ u1).setCell ⟨P + 1, 2, none⟩ u2) := by
  subst hP
  subst hm
  have hrd : IR (w.drewN n) (w.drewN n).heap.size A (L.drop j) := hr
  have hne : ∀ ad, A = some ad → ad.block ≠ W.heap.size + 1 := fun ad e => by have := hf ad e; omega
  have hne0 : ∀ ad, A = some ad → ad.block ≠ W.heap.size := fun ad e => by have := hf ad e; omega
  exact ⟨A, c, rfl, ((((hrd.othr hne0).othr hne).othr hne).othr hne).lift (by simp), hlc, hn, (fun ad e => by have := hf ad e; omega), ((((below_draws hb n).setCell (Nat.le_refl _) _).setCell (Nat.le_succ _) _).setCell (Nat.le_succ _) _).setCell (Nat.le_succ _) _⟩
set_option maxRecDepth 100000 in
set_option maxHeartbeats 4000000 in
theorem r_seen_any (key least n : Int) (SA : Option Addr) (l : List Int) (sc B : Nat) (w : World) (hB : B ≤ w.heap.size) (hll : l.length ≤ 1000) (hA : SA = none → sc = 0) (hb0 : 0 ≤ least) (hb1 : least ≤ 4000000000) (hs : Asc l) (hS : IR w B SA l) :
    Calls Try.prog 101 #[kyV key least (.slice SA l.length sc), .int .i64 n] w (SeenPost key (seenS least l n) w) := by
  have HR := Lib.hid (show seenS least l n = strip least (insL l (place l n) n) from rfl)
  generalize seenS least l n = R at *
  have HS := Lib.hid hs
  unfold kyV
  obtain ⟨w1, hw1⟩ : ∃ w1, (w.alloc (.cells (kyC key least (.slice SA l.length sc)) 58)).alloc (.cells (kyC 0 0 (.slice none 0 0)) 58) = w1 := ⟨_, rfl⟩
  have b1 : Below w.heap.size w w1 := by rw [← hw1]; exact two_new w _ _
  have z1 : w1.heap.size = w.heap.size + 2 := by rw [← hw1]; simp
  have g0 : Blk w1 w.heap.size (kyC key least (.slice SA l.length sc)) 58 := by rw [← hw1]; exact (Blk.new w _ _).alloc _
  have g1 : Blk w1 (w.heap.size + 1) (kyC 0 0 (.slice none 0 0)) 58 := by rw [← hw1]; exact Blk.snd w _ _ _
  have hS1 := hS.below (b1.mono hB)
  have hB1 := Nat.le_trans hB b1.size
  have HCL := Lib.hid (cloneO_any SA sc l B w1 hA (by omega) hB1 hS1)
  unfold kyC at hw1
  have HW1 := Lib.hid hw1
  obtain ⟨p0, p1, p2⟩ := blk_k g0
  clear hw1 hS hs hS1
  go_enter Try.func101, Try.ntmps101
  go_upto_region 1 with fail
  rw [HW1.out]
  go_wp2_with fail
  refine HCL.out.mono ?_
  rintro e w2 ⟨v2, rfl, ho2, hb2⟩
  have g02 := g0.below hb2 g0.lt
  have g12 := g1.below hb2 g1.lt
  obtain ⟨A2, c2, rfl, hr2, hlc2, hcm2, hA2, hfr2⟩ := ho2.form2
  have HO2 := Lib.hid ho2
  have HR2 := Lib.hid hr2
  have HB2 := Lib.hid hb2
  clear p0 p1 p2 ho2 hb2 HCL HW1 hr2
  go_wp2_with fail
  go_loop [6] (fun i => ∃ k : Nat, k ≤ l.length ∧ i = .int .i64 k ∧ Hid (∀ j (_ : j < k) (h : j < l.length), l[j] < n)) (fun i => l.length - (intOf i).toNat)
  case atStart => exact ⟨0, Nat.zero_le _, rfl, Lib.hid (fun j hj => by omega)⟩
  case round =>
    obtain ⟨k, hk, rfl, HI⟩ := hrel
    have hpl : ∀ (_ : k = l.length ∨ ∃ h : k < l.length, n ≤ l[k]), place l n = k := fun hend => place_at l n k hk (fun j hj => HI.out j hj (by omega)) (fun j hj hkj => by
      rcases hend with e | ⟨h, e⟩
      · omega
      · rcases Nat.eq_or_lt_of_le hkj with rfl | hlt
        · exact e
        · have := HS.out k j hlt hj; omega)
    have HPL := Lib.hid hpl
    clear hpl
    by_cases hgo : ∃ h : k < l.length, l[k] < n
    · obtain ⟨hlt, hn⟩ := hgo
      obtain ⟨ad, rfl, -, hc⟩ := HR2.out.get k hlt
      have hi1 : (k : Int) < (l.length : Int) := by omega
      obtain ⟨y, hy⟩ : ∃ y, l[k] = y := ⟨_, rfl⟩
      rw [hy] at hc hn
      have HY := Lib.hid hy
      clear hy
      go_wp2_with fail
      go_round
      case rel =>
        refine ⟨k + 1, by omega, by go_num, Lib.hid fun j hj h => ?_⟩
        rcases Nat.eq_or_lt_of_le (Nat.le_of_lt_succ hj) with rfl | hlt2
        · rw [HY.out]; exact hn
        · exact HI.out j hlt2 h
      case measure => simp [intOf]; omega
    · have hpk : place l n = k := HPL.out (by
        by_cases h : k < l.length
        · exact .inr ⟨h, by have : ¬ l[k] < n := fun e => hgo ⟨h, e⟩; omega⟩
        · exact .inl (by omega))
      obtain ⟨L, hL⟩ : ∃ L, insL l k n = L := ⟨_, rfl⟩
      have hLl : L.length ≤ 1001 := by rw [← hL, insL_len _ _ _ hk]; omega
      have hRL : R = strip least L := by rw [HR.out, hpk, hL]
      have HRL := Lib.hid hRL
      obtain ⟨w3, hw3⟩ : ∃ w3, w2.alloc (.cells #[.int .i64 n] 3) = w3 := ⟨_, rfl⟩
      have b3 : Below w2.heap.size w2 w3 := by rw [← hw3]; exact (Below.refl _ _).alloc (Nat.le_refl _) _
      have gx : Blk w3 w2.heap.size #[.int .i64 n] 3 := by rw [← hw3]; exact Blk.new w2 _ _
      have ho3 := HO2.out.after b3 (Nat.le_refl _)
      have g03 := g02.below b3 g02.lt
      have g13 := g12.below b3 g12.lt
      have hz2 := HB2.out.size
      have hz3 := b3.size
      have HIN := Lib.hid (insert_any (.slice A2 l.length c2) l k n w1.heap.size w2.heap.size w3 ho3 hk (by omega) gx (fun e => by have := (World.ownsRow.lt HO2.out _ e).2; omega) (by omega))
      have HLT := Lib.hid (fun k (hk : (Value.slice A2 l.length c2).ownBlock = some k) => (World.ownsRow.lt ho3 k hk).1)
      rw [hL] at HIN
      have HW3 := Lib.hid hw3
      have B3 := b1.trans ((HB2.out.trans (b3.mono hz2)).mono b1.size)
      have B3 := Lib.hid B3
      clear hw3 HPL HI ho3 gx g0 g1 g02 g12 b3 b1 hpk hRL hL
      have hcase : (∃ (ad : Addr) (y : Int), A2 = some ad ∧ k < l.length ∧ (k : Int) < (l.length : Int) ∧ (¬ y < n) ∧ w2.cell? (ad.add k) = some (.int .i64 y)) ∨ ¬ k < l.length := by
        by_cases hlt : k < l.length
        · obtain ⟨ad, hA, -, hc⟩ := HR2.out.get k hlt
          exact .inl ⟨ad, l[k], hA, hlt, by omega, fun e => hgo ⟨hlt, e⟩, hc⟩
        · exact .inr hlt
      clear hgo
      rcases hcase with ⟨ad, y, rfl, hlt, hi1, hn, hc⟩ | hlt
      all_goals
        go_wp2_with fail
        rw [HW3.out]
        refine HIN.out.mono ?_
        rintro e w4 ⟨v4, rfl, ho4, hn4⟩
        have b4 : Below w1.heap.size w3 w4 := (Below.refl _ _).grown hn4.1 (by omega) HLT.out
        have g04 := g03.below b4 (by omega)
        have g14 := g13.below b4 (by omega)
        have B4 := B3.out.trans (b4.mono (by omega))
        have hz4 := hn4.1.size
        obtain ⟨A4, c4, rfl, hr4, hlc4, hcm4, hA4, hfr4⟩ := ho4.form2
        have hAt : RSeenAt key R least (.slice SA l.length sc) L w.heap.size w 0 (.slice A4 L.length c4) w4 :=
          ⟨A4, c4, by rw [Nat.sub_zero], by rw [show least + ((0 : Nat) : Int) = least by omega]; exact g04, g14, by rw [List.drop_zero]; exact hr4, by rw [Nat.sub_zero]; exact hlc4, hcm4, hA4, fun ad e => by have := hfr4 ad e; omega, by rw [HRL.out, List.drop_zero, show least + ((0 : Nat) : Int) = least by omega], B4⟩
        have HAT := Lib.hid hAt
        clear hAt hr4 ho4 hn4 hfr4 b4 HIN HW3 HLT g03 g13 g04 g14 HR B3 B4
        go_wp2_with fail
        go_loopg [5] L.length (fun g v wr => ∃ j : Nat, j ≤ L.length ∧ L.length - j ≤ g ∧ RSeenAt key R least (.slice SA l.length sc) L w.heap.size w j v wr)
        case atStart => exact ⟨0, Nat.zero_le _, by omega, HAT.out⟩
        case round =>
          obtain ⟨j, hj, hg, A5, c5, hv5, gK, gZ, hr, hlc, hcm, hn5, hf, hR, hBW⟩ := hrel
          subst hv5
          obtain ⟨p0, p1, p2⟩ := blk_k gK
          have hmx : c5 ≤ 9223372036854775807 := by unfold maxLen at hcm; exact hcm
          clear HAT HRL
          obtain ⟨ls, hls⟩ : ∃ ls, least + (j : Int) = ls := ⟨_, rfl⟩
          rw [hls] at p1 hR gK
          have hls1 : 0 ≤ ls ∧ ls ≤ 4000001001 := by omega
          obtain ⟨hla, hlb⟩ := hls1
          have HLS := Lib.hid hls
          obtain ⟨q0, q1, q2⟩ := blk_k gZ
          obtain ⟨e0, e1, e2, -, -, -⟩ := blk_f gZ
          have f1 := gK.free 1
          have f2 := gK.free 2
          by_cases hlt5 : j < L.length
          · have hd0 : 0 < (L.drop j).length := by simp; omega
            obtain ⟨ad5, rfl, -, hc5⟩ := hr.get 0 hd0
            rw [addr_zero] at hc5
            have hgd : (L.drop j)[0] = L[j] := by simp
            rw [hgd] at hc5
            rw [strip_step _ L j hlt5] at hR
            have hi0 : (0 : Int) < ((L.length - j : Nat) : Int) := by omega
            have hi51 : 0 < L.length - j := by omega
            have hpb := hf ad5 rfl
            obtain ⟨m, hm⟩ : ∃ m, L.length - j = m := ⟨_, rfl⟩
            rw [hm] at hi0 hi51 hlc
            simp only [hm]
            obtain ⟨y5, hy5⟩ : ∃ y, L[j] = y := ⟨_, rfl⟩
            rw [hy5] at hc5 hR
            have HM := Lib.hid hm
            by_cases heq : y5 = ls
            · have d1 : (y5 == ls) = true := by simpa using heq
              rw [if_pos heq] at hR
              have HRR := Lib.hid hR
              have HRW := Lib.hid hr
              have hmc : m ≤ c5 := hlc
              have HRT := Lib.hid (IR.tail1 HRW.out (show (L.drop j).length ≤ c5 by simp; omega))
              rw [List.drop_drop] at HRT
              clear heq hR hr hm hls hy5 hgd hd0
              by_cases hc1 : c5 = 1
              · subst hc1
                rw [if_pos rfl] at HRT
                go_wp2_with fail
                go_quiet (fail)
                go_wp2_with fail
                go_roundg (L.length - (j + 1))
                case measure => have := HM.out; omega
                case rel =>
                  refine ⟨j + 1, hlt5, Nat.le_refl _, ?_⟩
                  exact RSeenAt.next gK gZ HLS.out (by have := HM.out; omega) HRT.out (by omega) (by simp [maxLen]) (fun e => by cases e) (fun ad e => by injection e with e; subst e; exact hpb) HRR.out hBW
              · rw [if_neg hc1] at HRT
                go_wp2_with fail
                go_quiet (fail)
                go_wp2_with fail
                go_roundg (L.length - (j + 1))
                case measure => have := HM.out; omega
                case rel =>
                  refine ⟨j + 1, hlt5, Nat.le_refl _, ?_⟩
                  exact RSeenAt.next gK gZ HLS.out (by have := HM.out; omega) HRT.out (by omega) (by unfold maxLen; omega) (fun e => by cases e) (fun ad e => by injection e with e; subst e; exact hpb) HRR.out hBW
            · have d1 : (y5 == ls) = false := by simpa using heq
              rw [if_neg heq] at hR
              have HRR := Lib.hid hR
              have HRW := Lib.hid hr
              clear heq hR hr hm hls hy5 hgd hd0
              go_wp2_with fail
              go_quiet (fail)
              go_wp2_with fail
              refine bodyPost_ret (v := .agg #[.int .i64 key, .int .i64 ls, .slice (some ad5) m c5]) (by simp [results, Try.results101, go_sem, q0, q1, q2]) rfl ?_
              rw [HRR.out]
              exact RSeenAt.ret (by have := HM.out; simp; omega) HRW.out hlc (fun e => by cases e) (fun ad e => by injection e with e; subst e; exact hpb) rfl hBW
          · have hj0 : L.length - j = 0 := by omega
            have hjl : L.length ≤ j := by omega
            rw [strip_end _ L j hjl] at hR
            have HRR := Lib.hid hR
            have HRW := Lib.hid hr
            have HJ := Lib.hid hjl
            simp only [hj0]
            have hmc : 0 ≤ c5 := Nat.zero_le _
            clear hR hr hls hlt5 hj0
            go_wp2_with fail
            go_quiet (fail)
            go_wp2_with fail
            refine bodyPost_ret (v := .agg #[.int .i64 key, .int .i64 ls, .slice A5 0 c5]) (by simp [results, Try.results101, go_sem, q0, q1, q2]) rfl ?_
            rw [HRR.out, ← List.drop_of_length_le HJ.out]
            exact RSeenAt.ret (by have := HJ.out; simp; omega) HRW.out hmc hn5 hf rfl hBW
end Go.Proofs.Yteikggieekhfkaa
