/- the program's Thinned whole. -/
import Derived.Test.YtdcnpbdkhcdinaaThinP
namespace Go.Proofs.Ytdcnpbdkhcdinaa
open Go.RowKit

theorem infoMo : (Try.prog.info? 38).map (fun i => (i.zero, i.size, i.bytes)) = some (some (.agg #[.int .i64 0, .int .i64 0]), 2, 16) := by kernel_rfl
theorem elemMo : Elem 33 38 2 16 := by
  obtain ⟨i, h1, h2, h3, h4⟩ := info_parts infoMo
  exact ⟨Try.underlying33, i, _, h1, h2, h3, h4, rfl, by omega⟩
theorem mo_one (l : List Mo) : ∀ u ∈ rcells Mo.cells l, u.oneCell' = true := by
  intro u hu
  obtain ⟨m, _, hm⟩ := List.mem_flatMap.1 hu
  simp only [Mo.cells, List.mem_cons, List.not_mem_nil, or_false] at hm
  rcases hm with rfl | rfl <;> rfl
abbrev OwnMo (w : World) (base : Nat) (v : Value) (l : List Mo) : Prop := OwnS Mo.cells 38 2 w base v l
/-- what Thinned answers -/
def ThinPost (l : List Mo) (width : Int) (w : World) (e : Ending) (w' : World) : Prop := ∃ v, e = .returned (.tuple #[v, .int .i64 (thinF l width)]) ∧ OwnMo w' w.heap.size v (thinR l width) ∧ Below w.heap.size w w'
theorem thin_step {width : Int} {T : List Mo} {x : Mo} (h : T ≠ []) : thinStep width T x = if nearB width x.v (T.getD (T.length - 1) default).v = true then T else T ++ [x] := by
  unfold thinStep
  rw [if_neg h]
theorem mom_facts {l : List Mo} (h : momF l = 0) : l.length ≤ 5000 ∧ (∀ x ∈ l, (0 ≤ x.t ∧ x.t ≤ 1000000000000) ∧ (-1000000000 ≤ x.v ∧ x.v ≤ 1000000000)) ∧ l.Pairwise (fun x y => x.t < y.t) := by
  unfold momF at h
  by_cases h5 : 5000 < l.length
  · rw [if_pos h5] at h; simp at h
  · rw [if_neg h5] at h
    obtain ⟨a, b⟩ := chk_facts l (-1) h
    refine ⟨by omega, fun x hx => ?_, b⟩
    have := (a x hx).1
    unfold moB at this
    simpa using this
theorem mo_last {w : World} {B : Nat} {A : Option Addr} {T : List Mo} (h : SR Mo.cells w B A T) (k : Nat) (hk : T.length = k + 1) : ∃ ad, A = some ad ∧ w.cell? ⟨(ad.add (k * 2)).block, (ad.add (k * 2)).off + 1, none⟩ = some (.int .i64 (T.getD (T.length - 1) default).v) := by
  obtain ⟨ad, hA, -, -, c1⟩ := mos_get h k (by omega)
  refine ⟨ad, hA, ?_⟩
  rw [c1]
  have : T.getD (T.length - 1) default = T[k] := by simp [List.getD, hk]
  rw [this]
set_option maxRecDepth 100000 in
set_option maxHeartbeats 4000000 in
theorem p_thinned_any (A : Option Addr) (l : List Mo) (c : Nat) (width : Int) (B : Nat) (w : World) (hB : B ≤ w.heap.size) (hll : l.length ≤ 9223372036854775807) (h : SR Mo.cells w B A l) :
    Calls Try.prog 17 #[.slice A l.length c, .int .i64 width] w (ThinPost l width w) := by
  have HF := Lib.hid (show thinF l width = if momF l = 0 then (if 0 ≤ width ∧ width ≤ 1000000000 then 0 else 1) else momF l from rfl)
  have HR := Lib.hid (show thinR l width = if thinF l width = 0 then thinL width l else [] from rfl)
  have HC := Lib.hid (p_checkMoments_any A l c B w hB hll h)
  have HMF := Lib.hid (@mom_facts l)
  unfold ThinPost
  generalize momF l = F at *
  by_cases hF : F = 0
  · subst hF
    obtain ⟨h5, hxb, hpw⟩ := HMF.out rfl
    by_cases hw : 0 ≤ width ∧ width ≤ 1000000000
    · have hf : thinF l width = 0 := by rw [HF.out, if_pos rfl, if_pos hw]
      have hr : thinR l width = thinL width l := by rw [HR.out, if_pos hf]
      have HX := Lib.hid (And.intro hf hr)
      have HWI := Lib.hid (twithin_any width 0 1000000000)
      rw [decide_eq_true hw] at HWI
      have HXB := Lib.hid hxb
      clear hf hr HF HR HMF hxb hpw
      go_enter Try.func17, Try.ntmps17
      go_wp2_with fail
      refine HC.out.mono ?_
      rintro e w1 ⟨rfl, hb1⟩
      have hr1 := h.below (hb1.mono hB)
      have hz1 := hb1.size
      clear HC h
      go_wp2_with fail
      refine (HWI.out _).mono ?_
      rintro e w' ⟨rfl, rfl⟩
      go_wp2_with fail
      go_loopw [7, 20] (fun u i wr => ∃ j : Nat, j ≤ l.length ∧ i = .int .i64 j ∧ OwnMo wr w.heap.size u (thinL width (l.take j)) ∧ Below w.heap.size w wr ∧ Below B w1 wr) (fun _ i _ => l.length - (intOf i).toNat)
      case atStart => exact ⟨0, Nat.zero_le _, rfl, OwnS.nil _ _ _ _ _, hb1, Below.refl _ _⟩
      case round =>
        obtain ⟨j, hj, rfl, hO, hbr, hb1r⟩ := hrel
        have hzr := hbr.size
        by_cases hlt : j < l.length
        · obtain ⟨ad, hA, hbk, c0, c1⟩ := mos_get (hr1.below hb1r) j hlt
          subst hA
          have hi0 : (0 : Int) ≤ (j : Int) := by omega
          have hi1 : (j : Int) < (l.length : Int) := by omega
          have hxj := HXB.out _ (List.getElem_mem hlt)
          have hnx := thin_next width l j hlt
          have hTm : ∀ x ∈ thinL width (l.take j), -1000000000 ≤ x.v ∧ x.v ≤ 1000000000 := fun x hx => (HXB.out x (List.mem_of_mem_take (thin_mem width l j x hx))).2
          have hTl := thin_len width l j
          generalize l[j] = x at *
          obtain ⟨t, v⟩ := x
          simp only at c0 c1 hxj
          generalize thinL width (l.take j) = T at *
          have ba : Below wr.heap.size wr (wr.alloc (.cells #[.int .i64 t, .int .i64 v] 38)) := (Below.refl _ _).alloc (Nat.le_refl _) _
          have hO1 := hO.after ba (Nat.le_refl _)
          have hlB := fun k (e : u7.ownBlock = some k) => (World.ownsRow.lt hO k e).1
          obtain ⟨A5, c5, hu7, hr5, hlc5, hb5⟩ := hO1.form
          have HO := Lib.hid hO
          have HO1 := Lib.hid hO1
          have HNX := Lib.hid hnx
          obtain ⟨N, hN⟩ : ∃ N, T.length = N := ⟨_, rfl⟩
          rw [hN] at hu7 hTl
          have HLB := Lib.hid hlB
          have HCF : Hid (∀ n, Cells (((wr.alloc (.cells #[.int .i64 t, .int .i64 v] 38)).drewN n).alloc (.cells #[.int .i64 t, .int .i64 v] 38)) (wr.heap.size + 1 + 1) (some ⟨wr.heap.size + 1, 0, none⟩) (rcells Mo.cells [⟨t, v⟩])) := Lib.hid (fun n => by
            have hz : ((wr.alloc (.cells #[.int .i64 t, .int .i64 v] 38)).drewN n).heap.size = wr.heap.size + 1 := by simp
            have := Cells.fresh' ((wr.alloc (.cells #[.int .i64 t, .int .i64 v] 38)).drewN n) (rcells Mo.cells [⟨t, v⟩]) 38 (0, 0) #[.int .i64 t, .int .i64 v] rfl
            rw [hz] at this
            exact this)
          have HON : Hid (∀ n, ((wr.alloc (.cells #[.int .i64 t, .int .i64 v] 38)).drewN n).ownsRow w.heap.size 38 2 (.slice A5 N c5) N (rcells Mo.cells T)) := Lib.hid (fun n => by
            have := (HO1.out.after (below_draws (Below.refl _ _) n) (Nat.le_refl _))
            rw [hu7] at this
            unfold OwnS at this
            rw [hN] at this
            exact this)
          subst hu7
          by_cases hT : N = 0
          · have hT0 : T = [] := List.eq_nil_of_length_eq_zero (by omega)
            have HS : Hid (thinStep width T ⟨t, v⟩ = T ++ [⟨t, v⟩]) := Lib.hid (by rw [hT0]; simp [thinStep])
            have HN := Lib.hid hN
            have e0 : ((N : Int) == 0) = true := by simp; omega
            have e00 : (N == 0) = true := by simp; omega
            clear hT0 hnx hO hO1 hlB hN hT
            go_wp2_with fail
            go_quiet (fail)
            all_goals
              go_wp2_with (first
                | (at_builtin; refine wpList_app _ rfl (.tmp 44) (.tmp 46) 33 38 2 16 rfl elemMo w.heap.size (.slice A5 N c5) N (rcells Mo.cells T) rfl (World.ownsRow.alloc (HON.out nq) _) (wr.heap.size + 1 + 1) _ 1 1 (rcells Mo.cells [⟨t, v⟩]) rfl rfl (HCF.out nq) (mo_one _) (by unfold maxLen; omega) (by omega) (by simp; omega) ?_; intro v7 w7 hown7 hgrow7 hat7)
                | fail)
              go_roundw
              case rel =>
                have hd := below_draws ((Below.refl w.heap.size wr).alloc hzr (.cells #[.int .i64 t, .int .i64 v] 38)) nq
                have hd2 := (hd.alloc (by simp; omega) (.cells #[.int .i64 t, .int .i64 v] 38)).grown hgrow7 (by simp; omega) (fun k hk => HLB.out k hk)
                exact ⟨j + 1, by omega, by go_num, by rw [HNX.out, HS.out]; exact OwnS.snoc (by rw [HN.out]; exact hown7), hbr.trans hd2, hb1r.trans (hd2.mono hB)⟩
              case measure => simp [intOf]; omega
          · obtain ⟨k, hk⟩ : ∃ k, N = k + 1 := ⟨N - 1, by omega⟩
            have hTne : T ≠ [] := fun e => by rw [e] at hN; simp at hN; omega
            obtain ⟨ad5, hA5, d5⟩ := mo_last hr5 k (by omega)
            subst hA5
            have hyb : -1000000000 ≤ (T.getD (T.length - 1) default).v ∧ (T.getD (T.length - 1) default).v ≤ 1000000000 := hTm _ (by
              have : T.getD (T.length - 1) default = T[T.length - 1]'(by omega) := by simp [List.getD, show T.length - 1 < T.length by omega]
              rw [this]; exact List.getElem_mem _)
            have hts := thin_step (width := width) (x := ⟨t, v⟩) hTne
            simp only at hts
            generalize (T.getD (T.length - 1) default).v = y at *
            have HN := Lib.hid hN
            have e0 : ((N : Int) == 0) = false := by simp; omega
            have e00 : (N == 0) = false := by simp; omega
            have e1 : (N : Int) - 1 = (k : Int) := by omega
            have e2 : IntKind.i64.wrap (k : Int) = (k : Int) := IntWalk.i64_in _ (by omega)
            have k0 : (0 : Int) ≤ (k : Int) := by omega
            have k1 : (k : Int) < (N : Int) := by omega
            have w1' : IntKind.i64.wrap (v - y) = v - y := IntWalk.i64_in _ (by omega)
            have w2' : wrap64 (v - y) = v - y := IntWalk.wrap64_in _ (by omega)
            have w3' : IntKind.i64.wrap (-width) = -width := IntWalk.i64_in _ (by omega)
            have w4' : wrap64 (-width) = -width := IntWalk.wrap64_in _ (by omega)
            have HNE : Hid (∀ w, Calls Try.prog 47 #[.int .i64 (v - y), .int .i64 (-width), .int .i64 width] w fun e w' => e = .returned (.bool (nearB width v y)) ∧ w = w') := Lib.hid (fun w => twithin_any (v - y) (-width) width w)
            by_cases hnr : nearB width v y = true
            · rw [if_pos hnr] at hts
              rw [hnr] at HNE
              have HS := Lib.hid hts
              clear hts hnx hO hlB hN hT hk hTne hnr hO1
              go_wp2_with fail
              go_quiet ((go_at_call 47; exact Calls.quiet_of_same ((HNE.out _).mono fun e w' h => ⟨h.1, h.2.symm⟩)))
              all_goals
                go_wp2_with fail
                go_roundw
                case rel =>
                  have hd := below_draws ((Below.refl w.heap.size wr).alloc hzr (.cells #[.int .i64 t, .int .i64 v] 38)) nq
                  have hd1 := below_draws ((Below.refl wr.heap.size wr).alloc (Nat.le_refl _) (.cells #[.int .i64 t, .int .i64 v] 38)) nq
                  exact ⟨j + 1, by omega, by go_num, by rw [HNX.out, HS.out]; exact HO.out.after hd1 (Nat.le_refl _), hbr.trans hd, hb1r.trans (hd.mono hB)⟩
                case measure => simp [intOf]; omega
            · have hnf : nearB width v y = false := by simpa using hnr
              rw [if_neg hnr] at hts
              rw [hnf] at HNE
              have HS := Lib.hid hts
              clear hts hnx hO hlB hN hT hk hTne hnr hO1 hnf
              go_wp2_with fail
              go_quiet ((go_at_call 47; exact Calls.quiet_of_same ((HNE.out _).mono fun e w' h => ⟨h.1, h.2.symm⟩)))
              all_goals
                go_wp2_with (first
                  | (at_builtin; refine wpList_app _ rfl (.tmp 44) (.tmp 46) 33 38 2 16 rfl elemMo w.heap.size (.slice (some ad5) N c5) N (rcells Mo.cells T) rfl (World.ownsRow.alloc (HON.out nq) _) (wr.heap.size + 1 + 1) _ 1 1 (rcells Mo.cells [⟨t, v⟩]) rfl rfl (HCF.out nq) (mo_one _) (by unfold maxLen; omega) (by omega) (by simp; omega) ?_; intro v7 w7 hown7 hgrow7 hat7)
                  | fail)
                go_roundw
                case rel =>
                  have hd := below_draws ((Below.refl w.heap.size wr).alloc hzr (.cells #[.int .i64 t, .int .i64 v] 38)) nq
                  have hd2 := (hd.alloc (by simp; omega) (.cells #[.int .i64 t, .int .i64 v] 38)).grown hgrow7 (by simp; omega) (fun k hk => HLB.out k hk)
                  exact ⟨j + 1, by omega, by go_num, by rw [HNX.out, HS.out]; exact OwnS.snoc (by rw [HN.out]; exact hown7), hbr.trans hd2, hb1r.trans (hd2.mono hB)⟩
                case measure => simp [intOf]; omega
        · obtain rfl : j = l.length := by omega
          rw [List.take_length] at hO
          have HO := Lib.hid hO
          clear hO
          go_wp2_with fail
          go_ret2
          rw [HX.out.1, HX.out.2]
          exact ⟨_, rfl, HO.out, hbr⟩
    · have hf : thinF l width = 1 := by rw [HF.out, if_pos rfl, if_neg hw]
      have hr : thinR l width = [] := by rw [HR.out, if_neg (by omega)]
      have HX := Lib.hid (And.intro hf hr)
      have HWI := Lib.hid (twithin_any width 0 1000000000)
      rw [decide_eq_false hw] at HWI
      clear hf hr HF HR HMF hw
      go_enter Try.func17, Try.ntmps17
      go_wp2_with fail
      refine HC.out.mono ?_
      rintro e w1 ⟨rfl, hb1⟩
      go_wp2_with fail
      refine (HWI.out _).mono ?_
      rintro e w' ⟨rfl, rfl⟩
      go_wp2_with fail
      go_ret2
      rw [HX.out.1, HX.out.2]
      exact ⟨_, rfl, OwnS.nil _ _ _ _ _, hb1⟩
  · have hf : thinF l width = F := by rw [HF.out, if_neg hF]
    have hr : thinR l width = [] := by rw [HR.out, if_neg (by rw [hf]; exact hF)]
    have HX := Lib.hid (And.intro hf hr)
    have dq : (F != 0) = true := by simpa using hF
    clear hf hr HF HR HMF hF
    go_enter Try.func17, Try.ntmps17
    go_wp2_with fail
    refine HC.out.mono ?_
    rintro e w1 ⟨rfl, hb1⟩
    go_wp2_with fail
    go_ret2
    rw [HX.out.1, HX.out.2]
    exact ⟨_, rfl, OwnS.nil _ _ _ _ _, hb1⟩
end Go.Proofs.Ytdcnpbdkhcdinaa
