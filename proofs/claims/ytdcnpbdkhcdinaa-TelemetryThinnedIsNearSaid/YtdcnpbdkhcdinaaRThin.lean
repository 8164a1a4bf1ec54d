/- the reference's Thinned whole. -/
import Derived.Test.YtdcnpbdkhcdinaaThinT
namespace Go.Proofs.Ytdcnpbdkhcdinaa
open Go.RowKit

set_option maxRecDepth 100000 in
set_option maxHeartbeats 400000 in
theorem rwithin_any (n a b : Int) (w : World) : Calls Try.prog 40 #[.int .i64 n, .int .i64 a, .int .i64 b] w fun e w' => e = .returned (.bool (decide (a ≤ n ∧ n ≤ b))) ∧ w = w' := by
  by_cases h1 : a ≤ n
  · by_cases h2 : n ≤ b
    · have E := Lib.hid (decide_eq_true (show a ≤ n ∧ n ≤ b from ⟨h1, h2⟩))
      go_enter Try.func40, Try.ntmps40
      go_wp2_with fail
      go_ret
      first | exact ⟨by rw [E.out]; rfl, rfl⟩ | exact ⟨rfl, rfl⟩
    · have E := Lib.hid (decide_eq_false (show ¬ (a ≤ n ∧ n ≤ b) from fun h => h2 h.2))
      have d2 : decide (n ≤ b) = false := decide_eq_false h2
      go_enter Try.func40, Try.ntmps40
      go_wp2_with fail
      go_ret
      first | exact ⟨by rw [E.out]; rfl, rfl⟩ | exact ⟨rfl, rfl⟩
  · have E := Lib.hid (decide_eq_false (show ¬ (a ≤ n ∧ n ≤ b) from fun h => h1 h.1))
    have d1 : decide (a ≤ n) = false := decide_eq_false h1
    go_enter Try.func40, Try.ntmps40
    go_wp2_with fail
    go_ret
    first | exact ⟨by rw [E.out]; rfl, rfl⟩ | exact ⟨rfl, rfl⟩
set_option maxRecDepth 100000 in
set_option maxHeartbeats 8000000 in
theorem r_thinned_any (A : Option Addr) (l : List Mo) (c : Nat) (width : Int) (B : Nat) (w : World) (hB : B ≤ w.heap.size) (hll : l.length ≤ 9223372036854775807) (h : SR Mo.cells w B A l) :
    Calls Try.prog 18 #[.slice A l.length c, .int .i64 width] w (ThinPost l width w) := by
  have HMM := Lib.hid (show momF l = if 5000 < l.length then 2 else chkM (-1) l from rfl)
  have HF := Lib.hid (show thinF l width = if momF l = 0 then (if 0 ≤ width ∧ width ≤ 1000000000 then 0 else 1) else momF l from rfl)
  have HR := Lib.hid (show thinR l width = if thinF l width = 0 then thinL width l else [] from rfl)
  have HMF := Lib.hid (@mom_facts l)
  have HBAD : Hid (∀ F, momF l = F → F ≠ 0 → thinF l width = F ∧ thinR l width = []) := Lib.hid (fun F h1 h2 => by
    have hf : thinF l width = F := by rw [HF.out, h1, if_neg h2]
    exact ⟨hf, by rw [HR.out, hf, if_neg h2]⟩)
  unfold ThinPost
  by_cases h5 : 5000 < l.length
  · have i5 : (5000 : Int) < (l.length : Int) := by omega
    have hf : momF l = 2 := by rw [HMM.out, if_pos h5]
    have HX := Lib.hid (HBAD.out 2 hf (by omega))
    clear hf HF HR HMM HMF HBAD
    go_enter Try.func18, Try.ntmps18
    go_wp2_with fail
    go_ret2
    rw [HX.out.1, HX.out.2]
    exact ⟨_, rfl, OwnS.nil _ _ _ _ _, Below.refl _ _⟩
  · have i5 : (l.length : Int) ≤ 5000 := by omega
    have hmf : momF l = chkM (-1) l := by rw [HMM.out, if_neg h5]
    have HM0 := Lib.hid hmf
    clear hmf HMM
    go_enter Try.func18, Try.ntmps18
    go_wp2_with fail
    go_loopw [17] (fun i wr => ∃ j : Nat, j ≤ l.length ∧ i = .int .i64 j ∧ momF l = chkM (prevT l j) (l.drop j) ∧ Below w.heap.size w wr) (fun i _ => l.length - (intOf i).toNat)
    case atStart => exact ⟨0, Nat.zero_le _, rfl, HM0.out, Below.refl _ _⟩
    case round =>
      obtain ⟨j, hj, rfl, hE, hbr⟩ := hrel
      have hr := h.below (hbr.mono hB)
      by_cases hlt : j < l.length
      · obtain ⟨ad, hA, hbk, c0, c1⟩ := mos_get hr j hlt
        have hi0 : (0 : Int) ≤ (j : Int) := by omega
        have hi1 : (j : Int) < (l.length : Int) := by omega
        have hst := chk_step l j hlt
        have HPN := Lib.hid (prev_next l j hlt)
        have hmb := moB_eq l[j]
        have HPV : Hid (∀ k, j = k + 1 → ∃ p : Mo, prevT l j = p.t ∧ (wr.alloc (.cells #[.int .i64 l[j].t, .int .i64 l[j].v] 38)).cell? (ad.add (k * 2)) = some (.int .i64 p.t)) := Lib.hid (fun k hk => by
          obtain ⟨ad', hA', -, d0, -⟩ := mos_get (hr.below ((Below.refl B wr).alloc (Nat.le_trans hB hbr.size) (.cells #[.int .i64 l[j].t, .int .i64 l[j].v] 38))) k (by omega)
          rw [hA] at hA'
          obtain rfl : ad = ad' := by injection hA'
          exact ⟨l[k], by subst hk; exact prev_next l k (by omega), d0⟩)
        subst hA
        generalize l[j] = x at *
        obtain ⟨t, v⟩ := x
        simp only at c0 c1 hst hmb HPN HPV
        have HW := Lib.hid (rwithin_any t 0 1000000000000)
        have HM := Lib.hid (show ∀ w, Calls Try.prog 40 #[.int .i64 v, .int .i64 (-1000000000), .int .i64 1000000000] w fun e w' => e = .returned (.bool (meaB v)) ∧ w = w' from fun w => rwithin_any v (-1000000000) 1000000000 w)
        have ba : Below w.heap.size w (wr.alloc (.cells #[.int .i64 t, .int .i64 v] 38)) := hbr.alloc hbr.size _
        have HE := Lib.hid (hE.trans hst)
        clear hE hst hr
        by_cases h1 : 0 ≤ t ∧ t ≤ 1000000000000
        · rw [decide_eq_true h1] at HW hmb
          by_cases h2 : meaB v = true
          · rw [h2] at HM hmb
            rw [hmb] at HE
            by_cases hj0 : j = 0
            · have i00 : decide (0 < j) = false := decide_eq_false (by omega)
              have HJ0 := Lib.hid hj0
              have HE2 : Hid (momF l = chkM (prevT l 1) (l.drop 1)) := Lib.hid (by rw [HE.out, if_pos (by simp), if_neg (by rw [hj0]; simp [prevT]; omega), hj0])
              clear HE HPV hj0
              go_wp2_with fail
              refine (HW.out _).mono ?_
              rintro e w' ⟨rfl, rfl⟩
              go_wp2_with fail
              refine (HM.out _).mono ?_
              rintro e w' ⟨rfl, rfl⟩
              go_wp2_with fail
              go_quiet (fail)
              all_goals
                go_wp2_with fail
                go_roundw
                case rel => exact ⟨j + 1, by omega, by go_num, by rw [HJ0.out]; exact HE2.out, below_draws ba _⟩
                case measure => simp [intOf]; omega
            · obtain ⟨k, hk⟩ : ∃ k, j = k + 1 := ⟨j - 1, by omega⟩
              have i00 : decide (0 < j) = true := decide_eq_true (by omega)
              have e1 : (j : Int) - 1 = (k : Int) := by omega
              have e2 : IntKind.i64.wrap (k : Int) = (k : Int) := IntWalk.i64_in _ (by omega)
              have k0 : (0 : Int) ≤ (k : Int) := by omega
              have k1 : (k : Int) < (l.length : Int) := by omega
              obtain ⟨p, hp, d0⟩ := HPV.out k hk
              clear hk hj0
              rw [hp] at HE
              obtain ⟨pt, pv⟩ := p
              simp only at HE d0
              by_cases h3 : t ≤ pt
              · have HE2 : Hid (momF l = 8) := Lib.hid (by rw [HE.out, if_pos (by simp), if_pos h3])
                have d3 : decide (t ≤ pt) = true := decide_eq_true h3
                clear HE HPV
                go_wp2_with fail
                refine (HW.out _).mono ?_
                rintro e w' ⟨rfl, rfl⟩
                go_wp2_with fail
                refine (HM.out _).mono ?_
                rintro e w' ⟨rfl, rfl⟩
                go_wp2_with fail
                go_quiet (fail)
                all_goals
                  go_wp2_with fail
                  go_ret2
                  rw [(HBAD.out _ HE2.out (by omega)).1, (HBAD.out _ HE2.out (by omega)).2]
                  exact ⟨_, rfl, OwnS.nil _ _ _ _ _, below_draws ba _⟩
              · have HE2 : Hid (momF l = chkM (prevT l (j + 1)) (l.drop (j + 1))) := Lib.hid (by rw [HE.out, if_pos (by simp), if_neg h3])
                have d3 : decide (t ≤ pt) = false := decide_eq_false h3
                clear HE HPV
                go_wp2_with fail
                refine (HW.out _).mono ?_
                rintro e w' ⟨rfl, rfl⟩
                go_wp2_with fail
                refine (HM.out _).mono ?_
                rintro e w' ⟨rfl, rfl⟩
                go_wp2_with fail
                go_quiet (fail)
                all_goals
                  go_wp2_with fail
                  go_roundw
                  case rel => exact ⟨j + 1, by omega, by go_num, HE2.out, below_draws ba _⟩
                  case measure => simp [intOf]; omega
          · have h2f : meaB v = false := by simpa using h2
            rw [h2f] at HM hmb
            have HE2 : Hid (momF l = 1) := Lib.hid (by rw [HE.out, hmb]; rfl)
            clear HE HPV
            go_wp2_with fail
            refine (HW.out _).mono ?_
            rintro e w' ⟨rfl, rfl⟩
            go_wp2_with fail
            refine (HM.out _).mono ?_
            rintro e w' ⟨rfl, rfl⟩
            go_wp2_with fail
            go_ret2
            rw [(HBAD.out _ HE2.out (by omega)).1, (HBAD.out _ HE2.out (by omega)).2]
            exact ⟨_, rfl, OwnS.nil _ _ _ _ _, ba⟩
        · rw [decide_eq_false h1] at HW hmb
          have HE2 : Hid (momF l = 1) := Lib.hid (by rw [HE.out, hmb]; rfl)
          clear HE HPV
          go_wp2_with fail
          refine (HW.out _).mono ?_
          rintro e w' ⟨rfl, rfl⟩
          go_wp2_with fail
          go_ret2
          rw [(HBAD.out _ HE2.out (by omega)).1, (HBAD.out _ HE2.out (by omega)).2]
          exact ⟨_, rfl, OwnS.nil _ _ _ _ _, ba⟩
      · obtain rfl : j = l.length := by omega
        rw [chk_end] at hE
        obtain ⟨-, hxb, hpw⟩ := HMF.out hE
        have HE0 := Lib.hid hE
        have hr1 := hr
        obtain ⟨w1, hw1⟩ : ∃ w1, w1 = wr := ⟨_, rfl⟩
        rw [← hw1] at hbr hr1 ⊢
        have hb1 := hbr
        have HXB := Lib.hid hxb
        clear hE hr hbr hw1 hxb hpw HMF h
        by_cases hw : 0 ≤ width ∧ width ≤ 1000000000
        · have hf : thinF l width = 0 := by rw [HF.out, if_pos HE0.out, if_pos hw]
          have hrr : thinR l width = thinL width l := by rw [HR.out, if_pos hf]
          have HX := Lib.hid (And.intro hf hrr)
          have HWI := Lib.hid (rwithin_any width 0 1000000000)
          rw [decide_eq_true hw] at HWI
          have hz1 := hb1.size
          clear hf hrr HF HR HBAD
          go_wp2_with fail
          refine (HWI.out _).mono ?_
          rintro e w' ⟨rfl, rfl⟩
          go_wp2_with fail
          go_loopw [8, 51] (fun u i wr => ∃ j : Nat, j ≤ l.length ∧ i = .int .i64 j ∧ OwnMo wr w.heap.size u (thinL width (l.take j)) ∧ Below w.heap.size w wr ∧ Below B w1 wr) (fun _ i _ => l.length - (intOf i).toNat)
          case atStart => exact ⟨0, Nat.zero_le _, rfl, OwnS.nil _ _ _ _ _, hb1, Below.refl _ _⟩
          case round =>
            obtain ⟨j, hj, rfl, hO, hbr, hb1r⟩ := hrel
            have hzr := hbr.size
            by_cases hlt : j < l.length
            · obtain ⟨ad, hA, hbk, c0, c1⟩ := mos_get (hr1.below hb1r) j hlt
              subst hA
              have hi0 : (0 : Int) ≤ (j : Int) := by omega
              have hi1 : (j : Int) < (l.length : Int) := by omega
              have hxj := HXB.out _ (List.getElem_mem hlt)
              have hnx := thin_next width l j hlt
              have hTm : ∀ x ∈ thinL width (l.take j), -1000000000 ≤ x.v ∧ x.v ≤ 1000000000 := fun x hx => (HXB.out x (List.mem_of_mem_take (thin_mem width l j x hx))).2
              have hTl := thin_len width l j
              generalize l[j] = x at *
              obtain ⟨t, v⟩ := x
              simp only at c0 c1 hxj
              generalize thinL width (l.take j) = T at *
              have ba : Below wr.heap.size wr (wr.alloc (.cells #[.int .i64 t, .int .i64 v] 38)) := (Below.refl _ _).alloc (Nat.le_refl _) _
              have hO1 := hO.after ba (Nat.le_refl _)
              have hlB := fun k (e : u8.ownBlock = some k) => (World.ownsRow.lt hO k e).1
              obtain ⟨A5, c5, hu8, hr5, hlc5, hb5⟩ := hO1.form
              have HO := Lib.hid hO
              have HO1 := Lib.hid hO1
              have HNX := Lib.hid hnx
              obtain ⟨N, hN⟩ : ∃ N, T.length = N := ⟨_, rfl⟩
              rw [hN] at hu8 hTl
              have HLB := Lib.hid hlB
              have HCF : Hid (∀ n, Cells (((wr.alloc (.cells #[.int .i64 t, .int .i64 v] 38)).drewN n).alloc (.cells #[.int .i64 t, .int .i64 v] 38)) (wr.heap.size + 1 + 1) (some ⟨wr.heap.size + 1, 0, none⟩) (rcells Mo.cells [⟨t, v⟩])) := Lib.hid (fun n => by
                have hz : ((wr.alloc (.cells #[.int .i64 t, .int .i64 v] 38)).drewN n).heap.size = wr.heap.size + 1 := by simp
                have := Cells.fresh' ((wr.alloc (.cells #[.int .i64 t, .int .i64 v] 38)).drewN n) (rcells Mo.cells [⟨t, v⟩]) 38 (0, 0) #[.int .i64 t, .int .i64 v] rfl
                rw [hz] at this
                exact this)
              have HON : Hid (∀ n, ((wr.alloc (.cells #[.int .i64 t, .int .i64 v] 38)).drewN n).ownsRow w.heap.size 38 2 (.slice A5 N c5) N (rcells Mo.cells T)) := Lib.hid (fun n => by
                have := (HO1.out.after (below_draws (Below.refl _ _) n) (Nat.le_refl _))
                rw [hu8] at this
                unfold OwnS at this
                rw [hN] at this
                exact this)
              subst hu8
              by_cases hT : N = 0
              · have hT0 : T = [] := List.eq_nil_of_length_eq_zero (by omega)
                have HS : Hid (thinStep width T ⟨t, v⟩ = T ++ [⟨t, v⟩]) := Lib.hid (by rw [hT0]; simp [thinStep])
                have HN := Lib.hid hN
                have e0 : ((N : Int) == 0) = true := by simp; omega
                have e00 : (N == 0) = true := by simp; omega
                clear hT0 hnx hO hO1 hlB hN hT
                go_wp2_with fail
                go_quiet (fail)
                all_goals
                  go_wp2_with (first
                    | (at_builtin; refine wpList_app _ rfl (.tmp 85) (.tmp 87) 33 38 2 16 rfl elemMo w.heap.size (.slice A5 N c5) N (rcells Mo.cells T) rfl (World.ownsRow.alloc (HON.out nq) _) (wr.heap.size + 1 + 1) _ 1 1 (rcells Mo.cells [⟨t, v⟩]) rfl rfl (HCF.out nq) (mo_one _) (by unfold maxLen; omega) (by omega) (by simp; omega) ?_; intro v7 w7 hown7 hgrow7 hat7)
                    | fail)
                  go_roundw
                  case rel =>
                    have hd := below_draws ((Below.refl w.heap.size wr).alloc hzr (.cells #[.int .i64 t, .int .i64 v] 38)) nq
                    have hd2 := (hd.alloc (by simp; omega) (.cells #[.int .i64 t, .int .i64 v] 38)).grown hgrow7 (by simp; omega) (fun k hk => HLB.out k hk)
                    exact ⟨j + 1, by omega, by go_num, by rw [HNX.out, HS.out]; exact OwnS.snoc (by rw [HN.out]; exact hown7), hbr.trans hd2, hb1r.trans (hd2.mono hB)⟩
                  case measure => simp [intOf]; omega
              · obtain ⟨k, hk⟩ : ∃ k, N = k + 1 := ⟨N - 1, by omega⟩
                have hTne : T ≠ [] := fun e => by rw [e] at hN; simp at hN; omega
                obtain ⟨ad5, hA5, d5⟩ := mo_last hr5 k (by omega)
                subst hA5
                have hyb : -1000000000 ≤ (T.getD (T.length - 1) default).v ∧ (T.getD (T.length - 1) default).v ≤ 1000000000 := hTm _ (by
                  have : T.getD (T.length - 1) default = T[T.length - 1]'(by omega) := by simp [List.getD, show T.length - 1 < T.length by omega]
                  rw [this]; exact List.getElem_mem _)
                have hts := thin_step (width := width) (x := ⟨t, v⟩) hTne
                simp only at hts
                generalize (T.getD (T.length - 1) default).v = y at *
                have HN := Lib.hid hN
                have e0 : ((N : Int) == 0) = false := by simp; omega
                have e00 : (N == 0) = false := by simp; omega
                have e1 : (N : Int) - 1 = (k : Int) := by omega
                have e2 : IntKind.i64.wrap (k : Int) = (k : Int) := IntWalk.i64_in _ (by omega)
                have k0 : (0 : Int) ≤ (k : Int) := by omega
                have k1 : (k : Int) < (N : Int) := by omega
                have w1' : IntKind.i64.wrap (v - y) = v - y := IntWalk.i64_in _ (by omega)
                have w2' : wrap64 (v - y) = v - y := IntWalk.wrap64_in _ (by omega)
                have w3' : IntKind.i64.wrap (-width) = -width := IntWalk.i64_in _ (by omega)
                have w4' : wrap64 (-width) = -width := IntWalk.wrap64_in _ (by omega)
                have w5' : IntKind.i64.wrap (y - v) = y - v := IntWalk.i64_in _ (by omega)
                have w6' : wrap64 (y - v) = y - v := IntWalk.wrap64_in _ (by omega)
                have hnb : nearB width v y = decide (-width ≤ v - y ∧ v - y ≤ width) := rfl
                by_cases hnr : nearB width v y = true
                · rw [if_pos hnr] at hts
                  have d1 : decide (width < v - y) = false := decide_eq_false (by rw [hnr] at hnb; have := of_decide_eq_true hnb.symm; omega)
                  have d2 : decide (width < y - v) = false := decide_eq_false (by rw [hnr] at hnb; have := of_decide_eq_true hnb.symm; omega)
                  clear hnb
                  have HS := Lib.hid hts
                  clear hts hnx hO hlB hN hT hk hTne hnr hO1
                  go_wp2_with fail
                  go_quiet (fail)
                  all_goals
                    go_wp2_with fail
                    go_roundw
                    case rel =>
                      have hd := below_draws ((Below.refl w.heap.size wr).alloc hzr (.cells #[.int .i64 t, .int .i64 v] 38)) nq
                      have hd1 := below_draws ((Below.refl wr.heap.size wr).alloc (Nat.le_refl _) (.cells #[.int .i64 t, .int .i64 v] 38)) nq
                      exact ⟨j + 1, by omega, by go_num, by rw [HNX.out, HS.out]; exact HO.out.after hd1 (Nat.le_refl _), hbr.trans hd, hb1r.trans (hd.mono hB)⟩
                    case measure => simp [intOf]; omega
                · have hnf : nearB width v y = false := by simpa using hnr
                  rw [if_neg hnr] at hts
                  have HS := Lib.hid hts
                  by_cases hlt1 : width < v - y
                  · have d1 : decide (width < v - y) = true := decide_eq_true hlt1
                    clear hts hnx hO hlB hN hT hk hTne hnr hO1 hnf hnb
                    go_wp2_with fail
                    go_quiet (fail)
                    all_goals
                      go_wp2_with (first
                        | (at_builtin; refine wpList_app _ rfl (.tmp 85) (.tmp 87) 33 38 2 16 rfl elemMo w.heap.size (.slice (some ad5) N c5) N (rcells Mo.cells T) rfl (World.ownsRow.alloc (HON.out nq) _) (wr.heap.size + 1 + 1) _ 1 1 (rcells Mo.cells [⟨t, v⟩]) rfl rfl (HCF.out nq) (mo_one _) (by unfold maxLen; omega) (by omega) (by simp; omega) ?_; intro v7 w7 hown7 hgrow7 hat7)
                        | fail)
                      go_roundw
                      case rel =>
                        have hd := below_draws ((Below.refl w.heap.size wr).alloc hzr (.cells #[.int .i64 t, .int .i64 v] 38)) nq
                        have hd2 := (hd.alloc (by simp; omega) (.cells #[.int .i64 t, .int .i64 v] 38)).grown hgrow7 (by simp; omega) (fun k hk => HLB.out k hk)
                        exact ⟨j + 1, by omega, by go_num, by rw [HNX.out, HS.out]; exact OwnS.snoc (by rw [HN.out]; exact hown7), hbr.trans hd2, hb1r.trans (hd2.mono hB)⟩
                      case measure => simp [intOf]; omega
                  · have d1 : decide (width < v - y) = false := decide_eq_false hlt1
                    have d2 : decide (width < y - v) = true := decide_eq_true (by
                      rw [hnf] at hnb
                      have := of_decide_eq_false hnb.symm
                      omega)
                    clear hts hnx hO hlB hN hT hk hTne hnr hO1 hnf hnb
                    go_wp2_with fail
                    go_quiet (fail)
                    all_goals
                      go_wp2_with (first
                        | (at_builtin; refine wpList_app _ rfl (.tmp 85) (.tmp 87) 33 38 2 16 rfl elemMo w.heap.size (.slice (some ad5) N c5) N (rcells Mo.cells T) rfl (World.ownsRow.alloc (HON.out nq) _) (wr.heap.size + 1 + 1) _ 1 1 (rcells Mo.cells [⟨t, v⟩]) rfl rfl (HCF.out nq) (mo_one _) (by unfold maxLen; omega) (by omega) (by simp; omega) ?_; intro v7 w7 hown7 hgrow7 hat7)
                        | fail)
                      go_roundw
                      case rel =>
                        have hd := below_draws ((Below.refl w.heap.size wr).alloc hzr (.cells #[.int .i64 t, .int .i64 v] 38)) nq
                        have hd2 := (hd.alloc (by simp; omega) (.cells #[.int .i64 t, .int .i64 v] 38)).grown hgrow7 (by simp; omega) (fun k hk => HLB.out k hk)
                        exact ⟨j + 1, by omega, by go_num, by rw [HNX.out, HS.out]; exact OwnS.snoc (by rw [HN.out]; exact hown7), hbr.trans hd2, hb1r.trans (hd2.mono hB)⟩
                      case measure => simp [intOf]; omega
            · obtain rfl : j = l.length := by omega
              rw [List.take_length] at hO
              have HO := Lib.hid hO
              clear hO
              go_wp2_with fail
              go_ret2
              rw [HX.out.1, HX.out.2]
              exact ⟨_, rfl, HO.out, hbr⟩
        · have hf : thinF l width = 1 := by rw [HF.out, if_pos HE0.out, if_neg hw]
          have hrr : thinR l width = [] := by rw [HR.out, if_neg (by omega)]
          have HX := Lib.hid (And.intro hf hrr)
          have HWI := Lib.hid (rwithin_any width 0 1000000000)
          rw [decide_eq_false hw] at HWI
          clear hf hrr HF HR HBAD hw
          go_wp2_with fail
          refine (HWI.out _).mono ?_
          rintro e w' ⟨rfl, rfl⟩
          go_wp2_with fail
          go_ret2
          rw [HX.out.1, HX.out.2]
          exact ⟨_, rfl, OwnS.nil _ _ _ _ _, hb1⟩
end Go.Proofs.Ytdcnpbdkhcdinaa
