/- With marks that a right clock made the right time is in the window, and no mark clashes: the law ClocksHaveRightTimes answers true for every input. No condition. -/
import Derived.Test.YthhgcnfkdlblnaaRClashes
import Derived.Test.YthhgcnfkdlblnaaClockMath2
import Derived.Test.YthhgcnfkdlblnaaOwnMarks
import Derived.Test.YthhgcnfkdlblnaaAwake
import Derived.Test.YthhgcnfkdlblnaaCloseM
import Derived.Test.YthhgcnfkdlblnaaClosed
namespace Go.Proofs.Ythhgcnfkdlblnaa
open Go.ChangeShapes Go.WideShapes Go.ChangeAt Go.RowKit

section
variable {H : Type} {enc : TypeId × Value → H} {P : Program} {w : World} {base : Nat} {spare : Nat → Bool} {held : Bool}
theorem trodAll_many6 {t0 t1 t2 t3 t4 t5 : TypeId} {args : Array Value} {ds : List (DataW H)} {ps : List MemPlace} (h : DataW.TrodAll enc P w base spare held [t0, t1, t2, t3, t4, t5] args.toList ds ps) :
    ∃ v0 v1 v2 v3 v4 v5 d0 d1 d2 d3 d4 d5 p0 p1 p2 p3 p4 p5, args = #[v0, v1, v2, v3, v4, v5] ∧ ds = [d0, d1, d2, d3, d4, d5] ∧ ps = p0 ++ p1 ++ p2 ++ p3 ++ p4 ++ p5 ∧ DataW.Trod enc P w base spare held t0 v0 d0 p0 ∧ DataW.Trod enc P w base spare held t1 v1 d1 p1 ∧
      DataW.Trod enc P w base spare held t2 v2 d2 p2 ∧ DataW.Trod enc P w base spare held t3 v3 d3 p3 ∧ DataW.Trod enc P w base spare held t4 v4 d4 p4 ∧ DataW.Trod enc P w base spare held t5 v5 d5 p5 := by
  obtain ⟨v0, vs0, d0, ds0, p0, q0, hargs, rfl, rfl, h0, r0⟩ := trodAll_cons h
  obtain ⟨v1, vs1, d1, ds1, p1, q1, rfl, rfl, rfl, h1, r1⟩ := trodAll_cons r0
  obtain ⟨v2, vs2, d2, ds2, p2, q2, rfl, rfl, rfl, h2, r2⟩ := trodAll_cons r1
  obtain ⟨v3, vs3, d3, ds3, p3, q3, rfl, rfl, rfl, h3, r3⟩ := trodAll_cons r2
  obtain ⟨v4, vs4, d4, ds4, p4, q4, rfl, rfl, rfl, h4, r4⟩ := trodAll_cons r3
  obtain ⟨v5, vs5, d5, ds5, p5, q5, rfl, rfl, rfl, h5, r5⟩ := trodAll_cons r4
  obtain ⟨rfl, rfl, rfl⟩ := trodAll_nil r5
  exact ⟨v0, v1, v2, v3, v4, v5, d0, d1, d2, d3, d4, d5, p0, p1, p2, p3, p4, p5, by cases args; simp_all, rfl, by simp, h0, h1, h2, h3, h4, h5⟩
end
theorem oper_app {o : Oper} {a : Act} {K : Act → World → Prop} {Q : Exit → Act → World → Prop} (w : World) (s x : Operand) (t e : TypeId) (size bytes : Nat)
    (ho : o.op = .call { callee := .builtin .append, args := #[s, x], argTypes := #[t, t] }) (hE : Elem t e size bytes) (base : Nat)
    (v : Value) (n : Nat) (xs : List Value) (hs : a.eval s = v) (hown : w.ownsRow base e size v n xs) (B : Nat) (A : Option Addr) (m c : Nat) (news : List Value)
    (hx : a.eval x = .slice A m c) (hl : news.length = m * size) (hc : Cells w B A news) (h1 : ∀ u ∈ news, u.oneCell' = true)
    (h63 : n + m ≤ maxLen) (hb : (n + m) * bytes ≤ 140737488355328) (hbase : base ≤ w.heap.size)
    (h : ∀ v' w', w'.ownsRow base e size v' (n + m) (xs ++ news) → w.grownBy w' v.ownBlock → (v'.ownBlock = v.ownBlock ∨ v'.ownBlock = some w.heap.size) → K (a.put o.dst v') w') :
    o.wp Try.prog a w K Q := by
  obtain ⟨v', w', hrun, a1, a2, a3⟩ := run_app hE w base o.type v n xs hown B A m c news hl hc h1 h63 hb hbase
  unfold Oper.wp execOp
  simp only [ho, resolve, invoke, builtin, Sem.run_bind, Sem.run_pure, Result.andThen_ok, List.map_toArray, List.map_cons, List.map_nil, hs, hx, hrun]
  exact h v' w' a1 a2 a3

theorem mul_small {t r : Int} (ht : 0 ≤ t ∧ t ≤ 1000000) (hr : 0 ≤ r ∧ r ≤ 1000000) : 0 ≤ t * r ∧ t * r ≤ 1000000000000 := by
  refine ⟨Int.mul_nonneg ht.1 hr.1, ?_⟩
  calc t * r ≤ 1000000 * 1000000 := Int.mul_le_mul ht.2 hr.2 hr.1 (by omega)
    _ = 1000000000000 := by omega
theorem ckC_mk {s f : Int} (hs : 1 ≤ s ∧ s ≤ 1000000) (hf : 1 ≤ f ∧ f ≤ 1000000) (h : s ≤ f) : ckC s f = 0 := by
  unfold ckC
  rw [if_neg (by omega), if_neg (by omega)]
theorem right_window {s f st r n : Int} {ms : List Mk} (hck : ckB s f ms = 0) (hs : 0 ≤ s) (h1 : s ≤ r) (h2 : r ≤ f) (hst : 0 ≤ st ∧ st ≤ 1000000000) (hn : 0 ≤ n ∧ n ≤ 1000000) (hr : 0 ≤ r ∧ r ≤ 1000000)
    (hms : ∀ m ∈ ms, ∃ t o, 0 ≤ o ∧ m = rightM st r t o) : ∃ a b, windowS s f ms n = (a, b, 0) ∧ a ≤ rightT st r n ∧ rightT st r n ≤ b := by
  obtain ⟨p1, p2⟩ := mul_small hn hr
  have hlo : lo64 ≤ rightT st r n := by unfold lo64 rightT; omega
  have hhi : rightT st r n ≤ hi64 := by unfold hi64 rightT; omega
  obtain ⟨a, b⟩ := right_win (n := n) hs h1 h2 ms lo64 hi64 hms hlo hhi
  refine ⟨_, _, ?_, a, b⟩
  unfold windowS
  rw [if_neg (by simpa using hck), if_neg (by omega), if_neg (by omega)]
theorem right_clashes {s f st r : Int} {ms : List Mk} (hck : ckB s f ms = 0) (hs : 0 ≤ s) (h1 : s ≤ r) (h2 : r ≤ f) (hms : ∀ m ∈ ms, ∃ t o, 0 ≤ o ∧ m = rightM st r t o) : clashesS s f ms = ([], 0) := by
  rw [clashesS_ok hck, right_clash hs h1 h2 ms hms]
/-- the head of the law's loop -/
def RightAt (s f st r : Int) (l : List Int) (w : World) (v i : Value) (wr : World) : Prop :=
  ∃ (k : Nat) (ms : List Mk), k ≤ l.length ∧ i = .int .i64 k ∧ OwnM wr (w.heap.size + 1) v ms ∧ ms.length = k ∧ (∀ m ∈ ms, ∃ t o, 0 ≤ o ∧ m = rightM st r t o) ∧ Below (w.heap.size + 1) (boxed s f w) wr
set_option maxRecDepth 100000 in
set_option maxHeartbeats 4000000 in
theorem lawRight_any (s f st r : Int) (A A' : Option Addr) (c c' : Nat) (l l' : List Int) (n : Int) (w : World) (hl : l.length ≤ 9223372036854775807) (hl' : l'.length ≤ 9223372036854775807) (hA : IR w w.heap.size A l) (hA' : IR w w.heap.size A' l') :
    Calls Try.prog 12 #[cv s f, .int .i64 st, .int .i64 r, .slice A l.length c, .slice A' l'.length c', .int .i64 n] w fun e w' => e = .returned (.bool true) ∧ Below w.heap.size w w' := by
  have b0 := boxed_below s f w
  obtain ⟨fa, fb⟩ := boxed_cells (Below.refl (w.heap.size + 1) (boxed s f w))
  have bsz := boxed_size s f w
  have c5 := fun w' => checkClock_any s f w'
  by_cases hC : ckC s f = 0
  · rw [hC] at c5
    obtain ⟨hs, hf, hsf⟩ := ckC_ok hC
    unfold cv at *
    generalize hW0 : boxed s f w = W0 at *
    have hW1 : w.alloc (.cells #[.int .i64 s, .int .i64 f] 45) = W0 := hW0
    have HB0 := Lib.hid b0
    have HW0 := Lib.hid hW0
    have C5 := Lib.hid c5
    clear c5 hW0 b0 hC
    go_enter Try.func12, Try.ntmps12
    go_wp2_with fail
    refine (C5.out _).mono ?_
    rintro e w1 ⟨rfl, hb1⟩
    have k1 : Below (w.heap.size + 1) W0 w1 := hb1.mono (by omega)
    have g1 : Below w.heap.size w w1 := HB0.out.trans (k1.mono (by omega))
    have fa1 := (Below.at_ k1 w.heap.size (by omega) 0).trans fa
    have fb1 := (Below.at_ k1 w.heap.size (by omega) 1).trans fb
    have z1 := k1.size
    clear hb1 fa fb C5
    go_wp2_with (first | (go_at_call 24; refine (awake_any _).mono ?_; rintro e w2 ⟨rfl, hb2⟩) | fail)
    all_goals try (go_ret; exact ⟨rfl, g1.trans (hb2.mono g1.size)⟩)
    have e1 : s ≤ r := by omega
    have e2 : r ≤ f := by omega
    have e3 : 0 ≤ st ∧ st ≤ 1000000000 := by omega
    have e4 : l.length ≤ l'.length := by omega
    have e5 : l.length ≤ 50 := by omega
    have d1 : decide (r < s) = false := by simp; omega
    have d2 : decide (f < r) = false := by simp; omega
    have d3 : decide (st < 0) = false := by simp; omega
    have d4 : decide (1000000000 < st) = false := by simp; omega
    have d5 : decide (l'.length < l.length) = false := by simp; omega
    have d7 : ((l.length : Int) == 0) = false := by first | (rw [beq_eq_false_iff_ne]; omega) | (simp; assumption)
    have d6 : decide ((50 : Int) < (l.length : Int)) = false := by simp; omega
    simp only [d1, d2, d3, d4, d5, d6, d7, Bool.or_false]
    go_loopw [13, 14] (fun v i wr => RightAt s f st r l w v i wr) (fun _ i _ => l.length - (intOf i).toNat)
    case atStart => exact ⟨0, [], Nat.zero_le _, rfl, OwnM.nil _ _, rfl, by simp, by rw [HW0.out]; exact k1⟩
    case round =>
      obtain ⟨k, ms, hk, rfl, hown, hml, hms, hb⟩ := hrel
      have HMS := Lib.hid hms
      clear hms
      have hbw := boxed_all hb
      have hbz := hb.size
      rw [boxed_size] at hbz
      by_cases hlt : k < l.length
      · obtain ⟨ad, rfl, had, c0⟩ := (hA.below hbw).get k hlt
        obtain ⟨ad', rfl, had', c1⟩ := (hA'.below hbw).get k (by omega)
        generalize l[k] = t at *
        generalize l'[k]'(by omega) = o at *
        have hk0 : (0 : Int) ≤ (k : Int) := by omega
        have hk1 : (k : Int) < (l.length : Int) := by omega
        have hk2 : (k : Int) < (l'.length : Int) := by omega
        by_cases hg : (0 ≤ t ∧ t ≤ 1000000) ∧ (0 ≤ o ∧ o ≤ 1000)
        · obtain ⟨⟨t1, t2⟩, o1, o2⟩ := hg
          obtain ⟨p1, p2⟩ := mul_small (t := t) (r := r) ⟨t1, t2⟩ (by omega)
          have wP0 : IntKind.i64.wrap (t * r) = t * r := IntWalk.i64_in _ (by omega)
          have HM : Hid (rightM st r t o = ⟨t, st + t * r / 1000000, o + 1⟩) := Lib.hid rfl
          obtain ⟨P, hP⟩ : ∃ P, P = t * r := ⟨_, rfl⟩
          rw [← hP] at p1 p2 HM
          have wP := wP0.trans hP.symm
          have wP2 : IntKind.i64.wrap (P.tdiv 1000000) = P / 1000000 := by rw [Int.tdiv_eq_ediv_of_nonneg p1]; exact IntWalk.i64_in _ (by omega)
          have wP3 : P.tdiv 1000000 = P / 1000000 := Int.tdiv_eq_ediv_of_nonneg p1
          have wS : IntKind.i64.wrap (st + P / 1000000) = st + P / 1000000 := IntWalk.i64_in _ (by omega)
          have wO : IntKind.i64.wrap (o + 1) = o + 1 := IntWalk.i64_in _ (by omega)
          have HRO := Lib.hid (show ∃ t' o', 0 ≤ o' ∧ rightM st r t o = rightM st r t' o' from ⟨t, o, o1, rfl⟩)
          have hlen : ms.length ≤ 50 := by omega
          have HML := Lib.hid hml
          have HBW := Lib.hid hb
          clear wP0 hP hml
          have HSS : Hid (∀ w', Below (w.heap.size + 1) wr w' → (w'.cell? (ad.add k) = some (.int .i64 t) ∧ w'.cell? (ad'.add k) = some (.int .i64 o))) := Lib.hid fun w' h =>
            ⟨(h.cell (by rw [add_block]; omega)).trans c0, (h.cell (by rw [add_block]; omega)).trans c1⟩
          have wP4 : IntKind.i64.wrap (P / 1000000) = P / 1000000 := IntWalk.i64_in _ (by omega)
          obtain ⟨W9, hW9⟩ : ∃ W9, W9 = (wr.alloc (.cells #[.int .i64 t, .int .i64 (st + P / 1000000), .int .i64 (o + 1)] 41)).drew := ⟨_, rfl⟩
          have hb9 : Below wr.heap.size wr W9 := by rw [hW9]; exact ((Below.refl _ _).alloc (Nat.le_refl _) _).drew
          have hown9 := hown.after hb9 (Nat.le_refl _)
          have hcell9 : Cells W9 (wr.heap.size + 1) (some ⟨wr.heap.size, 0, none⟩) (mcells [⟨t, st + P / 1000000, o + 1⟩]) := by
            rw [hW9]; exact (Cells.fresh wr (mcells [⟨t, st + P / 1000000, o + 1⟩]) 41 (0, 0) _ rfl).below (Below.refl _ _).drew
          have hsz9 := hb9.size
          have HOWN := Lib.hid hown9
          have HCEL := Lib.hid hcell9
          have HB9 : Hid (Below (w.heap.size + 1) wr W9) := Lib.hid (hb9.mono (by omega))
          have HG : Hid (∀ w3, W9.grownBy w3 u13.ownBlock → Below (w.heap.size + 1) wr w3) := Lib.hid fun w3 h => HB9.out.grown h (by omega) (fun g hgv => (hown9.lt g hgv).1)
          clear hb9 hown9 hcell9 hown hb
          go_wp2_with fail
          go_region_held3 (fun w' => w'.cell? (ad.add k) = some (.int .i64 t) ∧ w'.cell? (ad'.add k) = some (.int .i64 o))
            (first | go_keep | exact HSS.out _ (by assumption))
            (first
             | (rw [if_pos (by rfl)]
                rw [← hW9]
                refine oper_app _ (.tmp 95) (.tmp 115) 31 41 3 24 rfl elemM (w.heap.size + 1) u13 ms.length (mcells ms) rfl HOWN.out (wr.heap.size + 1) _ 1 1 (mcells [⟨t, st + P / 1000000, o + 1⟩]) rfl rfl HCEL.out (mcells_one _) ?_ ?_ ?_ ?_
                · (unfold maxLen; omega)
                · omega
                · omega
                intro v3 w3 hown3 hgrow3 hat3
                have hbn := HG.out _ hgrow3))
          have HO3 : Hid (OwnM w3 (w.heap.size + 1) v3 (ms ++ [⟨t, st + P / 1000000, o + 1⟩])) := Lib.hid (OwnM.of hown3 rfl)
          clear hown3 hgrow3 hat3 HOWN HCEL HG hW9
          go_wp2_with fail
          go_roundw
          case rel =>
            refine ⟨k + 1, _, by omega, by go_num, HO3.out, by simp [HML.out], ?_, HBW.out.trans hbn⟩
            intro m hm
            rcases List.mem_append.1 hm with hm | hm
            · exact HMS.out m hm
            · rw [List.mem_singleton] at hm
              rw [hm, ← HM.out]
              exact HRO.out
          case measure => simp [intOf]; omega
        · clear hown
          go_wp2_with (first | (go_at_call 24; refine (awake_any _).mono ?_; rintro e w2 ⟨rfl, hb2⟩) | fail)
          all_goals first | (go_ret; exact ⟨rfl, hbw.trans (hb2.mono hbw.size)⟩) | (exfalso; omega)
      · obtain rfl : k = l.length := by omega
        obtain ⟨A9, c9, rfl, hle, hMR⟩ := hown.form
        have hml5 : ms.length ≤ 50 := by omega
        have cM := checkMarks_any A9 c9 ms wr (by omega) hMR
        have cW := fun (w' : World) (hb : Below wr.heap.size wr w') => window_any s f A9 c9 ms n w' (by omega) ((hMR.below hb).lift hb.size)
        have cC := fun (w' : World) (hb : Below wr.heap.size wr w') => clashes_any s f A9 c9 ms w' (by omega) ((hMR.below hb).lift hb.size)
        obtain ⟨fa2, fb2⟩ := boxed_cells hb
        clear hown hMR hml fa1 fb1 z1 k1 g1 HW0 HB0 hW1 hA hA'
        by_cases hck : ckM ms = 0
        · by_cases hn : 0 ≤ n ∧ n ≤ 1000000
          · have hckB : ckB s f ms = 0 := by unfold ckB; rw [if_pos (ckC_mk hs hf hsf)]; exact hck
            obtain ⟨x, y, hw, hx, hy⟩ := right_window (n := n) (st := st) (r := r) hckB (by omega) e1 e2 e3 hn (by omega) HMS.out
            rw [hw] at cW
            rw [right_clashes hckB (by omega) e1 e2 HMS.out] at cC
            rw [hck] at cM
            unfold WinPost at cW
            unfold TurnPost at cC
            simp only at cW cC
            unfold cv at cW cC
            obtain ⟨p1, p2⟩ := mul_small (t := n) (r := r) hn (by omega)
            have wP0 : IntKind.i64.wrap (n * r) = n * r := IntWalk.i64_in _ (by omega)
            unfold rightT at hx hy
            obtain ⟨P, hP⟩ : ∃ P, P = n * r := ⟨_, rfl⟩
            rw [← hP] at p1 p2 hx hy
            have wP := wP0.trans hP.symm
            have wP3 : P.tdiv 1000000 = P / 1000000 := Int.tdiv_eq_ediv_of_nonneg p1
            have wP4 : IntKind.i64.wrap (P / 1000000) = P / 1000000 := IntWalk.i64_in _ (by omega)
            have wS : IntKind.i64.wrap (st + P / 1000000) = st + P / 1000000 := IntWalk.i64_in _ (by omega)
            have t1 : decide (x ≤ st + P / 1000000) = true := by simpa using hx
            have t2 : decide (st + P / 1000000 ≤ y) = true := by simpa using hy
            obtain ⟨n1, n2⟩ := hn
            have CM := Lib.hid cM
            have CW := Lib.hid cW
            have CC := Lib.hid cC
            clear cM cW cC wP0 hP hw hckB hck
            go_wp2_with fail
            refine CM.out.mono ?_
            rintro e w2 ⟨rfl, hb2⟩
            have fa3 := (Below.at_ hb2 w.heap.size (by omega) 0).trans fa2
            have fb3 := (Below.at_ hb2 w.heap.size (by omega) 1).trans fb2
            clear fa2 fb2 CM
            go_wp2_with fail
            refine (CW.out _ hb2).mono ?_
            rintro e w3 ⟨rfl, hb3⟩
            have hz2 := hb2.size
            have hb4 := hb2.trans (hb3.mono hb2.size)
            have fa4 := (Below.at_ hb3 w.heap.size (by omega) 0).trans fa3
            have fb4 := (Below.at_ hb3 w.heap.size (by omega) 1).trans fb3
            clear fa3 fb3 CW hb2 hb3
            go_wp2_with fail
            refine (CC.out _ hb4).mono ?_
            rintro e w5 ⟨v5, rfl, ho5, hb5⟩
            have hb6 := hb4.trans (hb5.mono hb4.size)
            obtain ⟨A5, c5, rfl, -⟩ := ho5.form
            have hg := hbw.trans (hb6.mono hbw.size)
            clear ho5 hb5 hb4 CC fa4 fb4
            go_wp2_with fail
            refine (awake_any _).mono ?_
            rintro e w6 ⟨rfl, hb7⟩
            go_wp2_with fail
            go_ret
            exact ⟨rfl, hg.trans (hb7.mono hg.size)⟩
          · rw [hck] at cM
            have CM := Lib.hid cM
            clear cM cW cC hck fa2 fb2
            go_wp2_with fail
            refine CM.out.mono ?_
            rintro e w2 ⟨rfl, hb2⟩
            have hg := hbw.trans (hb2.mono hbw.size)
            go_wp2_with (first | (go_at_call 24; refine (awake_any _).mono ?_; rintro e w3 ⟨rfl, hb3⟩) | fail)
            all_goals first | (go_ret; exact ⟨rfl, hg.trans (hb3.mono hg.size)⟩) | (exfalso; omega)
        · generalize ckM ms = K at *
          have hne : (K != 0) = true := by simpa using hck
          have CM := Lib.hid cM
          clear cM cW cC hck fa2 fb2
          go_wp2_with fail
          refine CM.out.mono ?_
          rintro e w2 ⟨rfl, hb2⟩
          have hg := hbw.trans (hb2.mono hbw.size)
          go_wp2_with fail
          refine (awake_any _).mono ?_
          rintro e w3 ⟨rfl, hb3⟩
          go_wp2_with fail
          go_ret
          exact ⟨rfl, hg.trans (hb3.mono hg.size)⟩
  · generalize ckC s f = K at *
    unfold cv at *
    have hne : (K != 0) = true := by simpa using hC
    have C5 := Lib.hid c5
    clear c5 hC hA hA' fa fb
    go_enter Try.func12, Try.ntmps12
    go_wp2_with fail
    refine (C5.out _).mono ?_
    rintro e w1 ⟨rfl, hb1⟩
    have hb1 := boxed_trans hb1
    go_wp2_with fail
    refine (awake_any _).mono ?_
    rintro e w2 ⟨rfl, hb2⟩
    go_wp2_with fail
    go_ret
    exact ⟨rfl, hb1.trans (hb2.mono hb1.size)⟩

set_option maxHeartbeats 1600000 in
set_option maxRecDepth 100000 in
theorem right_lifted (os : Os) (started : os.Started) (H : Type) (enc : TypeId × Value → H) :
    ReturnsInHanded {} Try.checked os 12 .any (Rows.clocksHaveRightTimesSpec.pre6 enc Try.prog Try.f12 Rows.clocksHaveRightTimesRow.domain false) (Rows.clocksHaveRightTimesSpec.post enc Try.prog Try.f12 false true false false) := by
  refine returnsInHanded_of_change (C := Try.checked) own started (by kernel_rfl) Try.func12
    (ChangeSpec.witness6 (enc := enc) (C := Try.checked) false ⟨#[], #[.agg #[.int .i64 0, .int .i64 0], .int .i64 0, .int .i64 0, .slice none 0 0, .slice none 0 0, .int .i64 0], []⟩ 8 (by kernel_rfl) (by kernel_rfl) (by kernel_rfl) (by kernel_rfl)) ?_
  intro W base args ds gs before hval0 hW _ _
  have hval : ∀ (j : Nat) t v, Try.f12.params[j]? = some t → args[j]? = some v → Value.okWide Try.prog W .any base t v := hval0
  have hW' := hW
  have hlt := fun x hx => hW'.lt x hx
  obtain ⟨p, q, hA0, hV, rfl, _, _⟩ := hW
  have hA : DataW.TrodAll enc Try.prog W 0 (fun _ => true) true Try.f12.params.toList args.toList ds p := hA0
  rw [Try.params12] at hA hval
  obtain ⟨v0, v1, v2, v3, v4, v5, d0, d1, d2, d3, d4, d5, p0, p1, p2, p3, p4, p5, rfl, rfl, rfl, h0, h1, h2, h3, h4, h5⟩ := trodAll_many6 hA
  obtain ⟨rfl, rfl⟩ := trodVars_none hV
  obtain ⟨cs, cf, rfl, hbc⟩ := open_clock (fun x hx => hlt x (by simp [hx])) (hval 0 45 v0 rfl rfl) h0
  obtain ⟨st, rfl, rfl, rfl, wfst⟩ := open_int Try.underlying3 (hval 1 3 v1 rfl rfl) h1
  have hbst := bounds_i64 wfst
  obtain ⟨r, rfl, rfl, rfl, wfr⟩ := open_int Try.underlying3 (hval 2 3 v2 rfl rfl) h2
  have hbr := bounds_i64 wfr
  obtain ⟨Ak', lenk, capk, rfl⟩ := okWide_slice Try.underlying22 (hval 3 22 v3 rfl rfl)
  obtain ⟨nk, hnk⟩ := h3
  obtain ⟨Ak, ck, k, hvk, hlck, hck, hBk, hIk⟩ := open_is (fun x hx => hlt x (by simp [hx])) hnk
  obtain ⟨Ao', leno, capo, rfl⟩ := okWide_slice Try.underlying22 (hval 4 22 v4 rfl rfl)
  obtain ⟨no, hno⟩ := h4
  obtain ⟨Ao, co, o, hvo, hlco, hco, hBo, hIo⟩ := open_is (fun x hx => hlt x (by simp [hx])) hno
  obtain ⟨n, rfl, rfl, rfl, wfn⟩ := open_int Try.underlying3 (hval 5 3 v5 rfl rfl) h5
  have hbn := bounds_i64 wfn
  rw [hvk] at hW' ⊢
  rw [hvo] at hW' ⊢
  refine (lawRight_any cs cf st r Ak Ao ck co k o n W (by unfold maxLen at hck; omega) (by unfold maxLen at hco; omega) hBk hBo).mono fun e W' ⟨he, hb⟩ => ?_
  subst he
  exact ⟨_, rfl, law_post (by decide +kernel) rfl rfl hW' rfl hb⟩

set_option maxRecDepth 100000 in
theorem right_closed : joinedFacts Try.prog 12 Try.f12 Rows.clocksHaveRightTimesSpec Rows.clocksHaveRightTimesRow = true :=
  closed_all (by as_aux_lemma => kernel_rfl) (by as_aux_lemma => kernel_rfl) (by as_aux_lemma => kernel_rfl) (by as_aux_lemma => kernel_rfl) (by as_aux_lemma => kernel_rfl) (by as_aux_lemma => kernel_rfl) (by as_aux_lemma => kernel_rfl) (by as_aux_lemma => kernel_rfl) (by as_aux_lemma => kernel_rfl) (by as_aux_lemma => kernel_rfl) (by as_aux_lemma => kernel_rfl) (by as_aux_lemma => kernel_rfl) (by as_aux_lemma => kernel_rfl) (by as_aux_lemma => kernel_rfl) (by as_aux_lemma => kernel_rfl) (by as_aux_lemma => kernel_rfl) (by as_aux_lemma => kernel_rfl) (by as_aux_lemma => kernel_rfl) pKeys (by as_aux_lemma => kernel_rfl) pLifts pMake (by as_aux_lemma => kernel_rfl) (by as_aux_lemma => kernel_rfl) (by as_aux_lemma => kernel_rfl) (by as_aux_lemma => kernel_rfl)

theorem right_holds : Rows.ClocksHaveRightTimesSaid :=
  OpenClaim.holds_of_wide 12 Try.f12 rfl rfl rfl rfl rfl rfl rfl ⟨rfl, rfl, rfl, rfl, rfl⟩ rfl rfl rfl rfl rfl (by kernel_rfl) Try.func12 right_closed
    (of_decide_eq_true (by kernel_rfl)) (by unfold Func.isWrapper; first | (rw [if_pos (by decide +kernel)]; kernel_rfl) | (rw [if_neg (by decide +kernel)]; exact ⟨rfl, rfl⟩))
    (fun os started H enc _ => right_lifted os started H enc)
#print axioms right_holds
end Go.Proofs.Ythhgcnfkdlblnaa
