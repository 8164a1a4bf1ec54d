/- the walk of the program's scrub. -/
import Derived.Test.YtpccpkjfnmclfaaScrubW
import Derived.StillTailTactics
import Derived.Deep.RegionLaw
import Derived.Deep.Cut
namespace Go.Proofs.Ytpccpkjfnmclfaa
open Go.RowKit
attribute [local go_sem] msetCell_draws malloc_draws

theorem oper_app {o : Oper} {a : Act} {K : Act → World → Prop} {Q : Exit → Act → World → Prop} (w : World) (s x : Operand) (t e : TypeId) (size bytes : Nat)
    (ho : o.op = .call { callee := .builtin .append, args := #[s, x], argTypes := #[t, t] }) (hE : Elem t e size bytes) (base : Nat)
    (v : Value) (n : Nat) (xs : List Value) (hs : a.eval s = v) (hown : w.ownsRow base e size v n xs) (B : Nat) (A : Option Addr) (m c : Nat) (news : List Value)
    (hx : a.eval x = .slice A m c) (hl : news.length = m * size) (hc : Cells w B A news) (h1 : ∀ u ∈ news, u.oneCell' = true)
    (h63 : n + m ≤ maxLen) (hb : (n + m) * bytes ≤ 140737488355328) (hbase : base ≤ w.heap.size)
    (h : ∀ v' w', w'.ownsRow base e size v' (n + m) (xs ++ news) → w.grownBy w' v.ownBlock → (v'.ownBlock = v.ownBlock ∨ v'.ownBlock = some w.heap.size) → K (a.put o.dst v') w') :
    o.wp Try.prog a w K Q := by
  obtain ⟨v', w', hrun, a1, a2, a3⟩ := run_app hE w base o.type v n xs hown B A m c news hl hc h1 h63 hb hbase
  unfold Oper.wp execOp
  simp only [ho, resolve, invoke, builtin, Sem.run_bind, Sem.run_pure, Result.andThen_ok, List.map_toArray, List.map_cons, List.map_nil, hs, hx, hrun]
  exact h v' w' a1 a2 a3
theorem box_below' (x : Obj) (w : World) : Below w.heap.size w (w.alloc x) := (Below.refl _ _).alloc (Nat.le_refl _) x
/-- what scrub leaves -/
def ScrubAt (P g n cap X : Nat) (s : St) (w w' : World) : Prop :=
  ∃ dv, HeldS w' P (.slice (some ⟨g, 0, none⟩) n cap) (.int .i64 (s.next : Int)) dv ∧ RowAt w' g cap (ints s.C) ∧ OwnS w' (P + 1) dv s.done ∧ Kept P g w w' ∧ dv.ownBlock ≠ some X ∧ w'.heap[X]? = w.heap[X]?
set_option maxRecDepth 100000 in
set_option maxHeartbeats 2000000 in
theorem scrub_any (P g n cap X t many : Nat) (s : St) (w0 w : World) (hXg : X ≠ g) (hXP : X ≠ P) (hXw : X < w0.heap.size) (hs : s.ok n) (hgP : g < P) (hn : n ≤ 2000) (hd : s.done.length + many ≤ 1000000000) (hat : ScrubAt P g n cap X s w0 w) :
    Calls Try.prog 69 #[.pointer (some ⟨P, 0, none⟩), .int .i64 (t : Int), .int .i64 (many : Int)] w fun e w' => e = .returned (.tuple #[]) ∧ ScrubAt P g n cap X (scrubT t many s) w0 w' := by
  go_enter Try.func69, Try.ntmps69
  go_wp2_with fail
  go_loopw [6, 7, 8, 10] (fun _ _ _ i wr => ∃ j : Nat, j ≤ many ∧ i = .int .i64 (j : Int) ∧ ScrubAt P g n cap X (scrubT t j s) w0 wr) (fun _ _ _ i _ => many - (intOf i).toNat)
  case atStart => exact ⟨0, Nat.zero_le _, rfl, hat⟩
  case round =>
    obtain ⟨j, hj, rfl, hcur⟩ := hrel
    by_cases hlt : j < many
    · have hok := scrub_ok hs (t := t) j
      have hdn := scrub_done t s j
      have HS := Lib.hid (show scrubT t (j + 1) s = stepS t (scrubT t j s) from rfl)
      generalize scrubT t j s = q at *
      obtain ⟨C, x, D⟩ := q
      obtain ⟨q1, q2, q3⟩ := hok
      obtain ⟨dv, hS, hR, hO, hK, hN1, hH⟩ := hcur
      have hXl : X < wr.heap.size := Nat.lt_of_lt_of_le hXw hK.size
      simp only at q1 q2 q3 hS hR hO hdn
      obtain ⟨s0, s1, s2⟩ := hS.cells
      have hx : x < C.length := by omega
      have hcell := hR.cell x (by rw [ints_len]; exact hx)
      rw [ints_get C x hx] at hcell
      have hfree := hR.free x
      have hk0 : (0 : Int) ≤ (x : Int) := Int.natCast_nonneg _
      have hk1 : (x : Int) < (n : Int) := by omega
      have hgd : C.getD x 0 = C[x] := by simp [List.getD, hx]
      have hcl := q3 x hx
      unfold stepS at HS
      simp only [hgd] at HS
      have HQ1 := Lib.hid q1
      have HSET := Lib.hid (show C.set x C[x] = C from by simp)
      have HX1 := Lib.hid (show ((x : Int) + 1) % (n : Int) = (((x + 1) % n : Nat) : Int) by simp)
      have hn0 : ((n : Int) == 0) = false := beq_eq_false_iff_ne.2 (by omega)
      have HPG : P ≠ g := by omega
      clear q3 hgd q1
      generalize C[x] = c at *
      have HK := Lib.hid (kindOf_any c hcl)
      have hk3 := kind_three c
      have hkb := kind_bit c
      go_wp2_with fail
      go_region
      have hS1 := hS.drew
      have hR1 := hR.drew
      have hO1 := hO.drew
      have hK1 := hK.drew
      have hH1 : wr.drew.heap[X]? = w0.heap[X]? := hH
      have hXl1 : X < wr.drew.heap.size := hXl
      clear s0 s1 s2 hcell hfree hS hR hO hK hH hXl
      generalize wr.drew = w1 at *
      generalize hkk : kindN c = kk at *
      have HKK := Lib.hid hkk
      clear hkk
      obtain ⟨kk, bb⟩ := kk
      simp only at HK hk3 hkb HS
      rcases hk3 with rfl | rfl | rfl
      · have hm : mend c = c := by unfold mend; rw [HKK.out]; simp
        have hHS : Hid (scrubT t (j + 1) s = ⟨C, (x + 1) % n, D⟩) := Lib.hid (by have h := HS.out; have h1 := HQ1.out; rw [hm, if_pos rfl, h1, HSET.out] at h; exact h)
        clear HS hkb hm
        go_wp2_with (first | (go_at_call 98; refine (HK.out _).mono ?_; rintro e w' ⟨rfl, rfl⟩) | fail)
        have hS2 := hS1
        have hR2 := hR1
        have hO2 := hO1
        have hK2 := hK1
        have hH2 := hH1
        obtain ⟨s0, s1, s2⟩ := hS2.cells
        have sf := hS2.free 1
        go_region
        go_wp2_with fail
        refine ⟨⟨j + 1, by omega, by go_num, ?_⟩, by simp [intOf]; omega⟩
        rw [hHS.out, HX1.out]
        exact ⟨dv, (hS2.set1 _).drew, (hR2.other HPG.symm).drew, (hO2.other (by omega)).drew, (hK2.setHigh (Nat.le_refl _)).drew, hN1, (Below.heap_setCell _ ⟨P, 1, none⟩ _ X hXP).trans hH2⟩
      · obtain ⟨hb1, hb2⟩ := hkb rfl
        obtain ⟨bb, rfl⟩ : ∃ b', bb = b' + 1 := ⟨bb - 1, by omega⟩
        have hm : mend c = c ^^^ 2 ^ bb := by unfold mend; rw [HKK.out]; simp
        have hHS : Hid (scrubT t (j + 1) s = ⟨C.set x (c ^^^ 2 ^ bb), (x + 1) % n, D ++ [⟨t, x, 2, bb + 1⟩]⟩) := Lib.hid (by have h := HS.out; have h1 := HQ1.out; rw [hm, if_neg (by omega), h1] at h; exact h)
        have HFL := Lib.hid (flipped_any c bb hcl (by omega) ((bb + 1 : Nat) : Int) (Lib.hid (by omega)))
        clear HS hkb hm
        generalize c ^^^ 2 ^ bb = V at *
        generalize hB1 : bb + 1 = B1 at *
        obtain ⟨s0, s1, s2⟩ := hS1.cells
        have sf1 := hS1.free 2
        have hPl := hS1.lt
        have hgl := hR1.lt
        have hown1 := World.ownsRow.alloc hO1 (.cells #[.int .i64 (t : Int), .int .i64 (x : Int), .int .i64 (2 : Int), .int .i64 (B1 : Int)] 126)
        have HO1 := Lib.hid (fun k (hk : dv.ownBlock = some k) => (World.ownsRow.lt hO1 k hk).1)
        have HB := Lib.hid ((Below.refl (P + 1) w1).alloc (by omega) (.cells #[.int .i64 (t : Int), .int .i64 (x : Int), .int .i64 (2 : Int), .int .i64 (B1 : Int)] 126))
        have HSS := Lib.hid (fun w' (h : Below (P + 1) w1 w') => hS1.below h (Nat.lt_succ_self P))
        have HBX := Lib.hid (fun o => (box_below' o w1).block X hXl1)
        have HN1 := Lib.hid hN1
        go_wp2_with (first | (go_at_call 98; refine (HK.out _).mono ?_; rintro e w' ⟨rfl, rfl⟩) | fail)
        go_region_law (rw [if_pos (by rfl)]; refine oper_app _ (.tmp 33) (.tmp 42) 60 126 4 32 rfl elemS (P + 1) dv D.length (scells D) rfl hown1 (w1.heap.size + 1) _ 1 1 (scells [⟨t, x, 2, B1⟩]) rfl rfl (Cells.fresh w1 _ 126 _ _ rfl) (scells_one _) (by unfold maxLen; omega) (by omega) (by simp; omega) ?_; intro v3 w3 hown3 hgrow3 hat3; have ho3 := OwnS.of (a := D) (b := [⟨t, x, 2, B1⟩]) hown3 rfl; obtain ⟨A3, c3, hv3, -, -⟩ := ho3.form; have hv4 : v3 = .slice A3 (D.length + 1) c3 := (by rw [hv3]; simp); clear hv3; subst hv4; have hb3 : Below (P + 1) w1 w3 := (by first | exact HB.out.grown hgrow3 (by simp; omega) HO1.out | exact HB.out.drew.grown hgrow3 (by simp; omega) HO1.out); have hx3 : w3.heap[X]? = w1.heap[X]? := (by exact (hgrow3.block X (by simp; omega) (fun e => HN1.out e.symm)).trans (HBX.out _)); have hn3 : Value.ownBlock (.slice A3 (D.length + 1) c3) ≠ some X := (by rcases hat3 with q | q; (rw [q]; exact HN1.out); (rw [q]; intro q2; injection q2 with q2; simp at q2; omega)); have hS3 := HSS.out w3 hb3; obtain ⟨s30, s31, s32⟩ := hS3.cells; have sf3 := hS3.free 2)
        all_goals
          have hR3 := hR1.below hb3 (by omega)
          have hS2 := hS3.set2 (.slice A3 (D.length + 1) c3)
          have hR2 := hR3.other (g' := P) (k := 2) (u := .slice A3 (D.length + 1) c3) HPG.symm
          have hO2 := ho3.other (p := P) (k := 2) (u := .slice A3 (D.length + 1) c3) (by omega)
          have hK2 := (hK1.trans (Kept.of (hb3.mono (by omega)))).setHigh (p := P) (k := 2) (u := .slice A3 (D.length + 1) c3) (Nat.le_refl _)
          have hH2 := (Below.heap_setCell w3 ⟨P, 2, none⟩ (.slice A3 (D.length + 1) c3) X hXP).trans (hx3.trans hH1)
          clear hown1 hown3 hgrow3 hat3 ho3 hb3 hx3 HBX HN1 hH1 hS3 s30 s31 s32 sf3 hR3 HB HSS hS1 hR1 hO1 hK1 HO1 s0 s1 s2 sf1
          generalize w3.setCell ⟨P, 2, none⟩ _ = w4 at *
          go_upto_region 7 with fail
          obtain ⟨s0, s1, s2⟩ := hS2.cells
          have m2 := hR2.free x
          have m1 := hR2.cell x (by rw [ints_len]; exact hx)
          have HSS : Hid (∀ w', HeldS w' P (.slice (some ⟨g, 0, none⟩) n cap) (.int .i64 (x : Int)) (.slice A3 (D.length + 1) c3) → (w'.cell? ⟨P, 0, none⟩ = some (.slice (some ⟨g, 0, none⟩) n cap) ∧ w'.cell? ⟨P, 1, none⟩ = some (.int .i64 (x : Int)))) := Lib.hid fun w' h => ⟨h.cells.1, h.cells.2.1⟩
          go_region_held3 (fun w' => w'.cell? ⟨P, 0, none⟩ = some (.slice (some ⟨g, 0, none⟩) n cap) ∧ w'.cell? ⟨P, 1, none⟩ = some (.int .i64 (x : Int)))
            (first | with_reducible exact HSS.out _ hS2 | with_reducible exact HSS.out _ hS2.drew | with_reducible exact HSS.out _ (hS2.other HPG) | with_reducible exact HSS.out _ (hS2.other HPG).drew)
            (first | (go_at_call 95; refine (HFL.out _).mono ?_; rintro e w' ⟨rfl, rfl⟩))
          have hS5 := (hS2.other (k := x) (u := .int .i64 (V : Int)) HPG).drew
          have hR5 := (hR2.set x (V : Int)).drew
          rw [ints_set] at hR5
          have hO5 := (hO2.other (p := g) (k := x) (u := .int .i64 (V : Int)) (by omega)).drew
          have hK5 := (hK2.setG (k := x) (u := .int .i64 (V : Int))).drew
          have hH5 : (w4.setCell ⟨g, x, none⟩ (.int .i64 (V : Int))).drew.heap[X]? = w0.heap[X]? := (Below.heap_setCell w4 ⟨g, x, none⟩ (.int .i64 (V : Int)) X hXg).trans hH2
          clear s0 s1 s2 m1 m2 HSS hS2 hR2 hO2 hK2 hH2
          generalize World.drew _ = w5 at *
          go_wp2_with fail
          obtain ⟨s0, s1, s2⟩ := hS5.cells
          have sf := hS5.free 1
          go_region
          go_wp2_with fail
          refine ⟨⟨j + 1, by omega, by go_num, ?_⟩, by simp [intOf]; omega⟩
          rw [hHS.out, HX1.out]
          exact ⟨_, (hS5.set1 _).drew, (hR5.other HPG.symm).drew, (hO5.other (by omega)).drew, (hK5.setHigh (Nat.le_refl _)).drew, hn3, (Below.heap_setCell _ ⟨P, 1, none⟩ _ X hXP).trans hH5⟩
      · have hm : mend c = c := by unfold mend; rw [HKK.out]; simp
        have hHS : Hid (scrubT t (j + 1) s = ⟨C, (x + 1) % n, D ++ [⟨t, x, 3, bb⟩]⟩) := Lib.hid (by have h := HS.out; have h1 := HQ1.out; rw [hm, if_neg (by omega), h1, HSET.out] at h; exact h)
        clear HS hkb hm
        obtain ⟨s0, s1, s2⟩ := hS1.cells
        have sf1 := hS1.free 2
        have hPl := hS1.lt
        have hgl := hR1.lt
        have hown1 := World.ownsRow.alloc hO1 (.cells #[.int .i64 (t : Int), .int .i64 (x : Int), .int .i64 (3 : Int), .int .i64 (bb : Int)] 126)
        have HO1 := Lib.hid (fun k (hk : dv.ownBlock = some k) => (World.ownsRow.lt hO1 k hk).1)
        have HB := Lib.hid ((Below.refl (P + 1) w1).alloc (by omega) (.cells #[.int .i64 (t : Int), .int .i64 (x : Int), .int .i64 (3 : Int), .int .i64 (bb : Int)] 126))
        have HSS := Lib.hid (fun w' (h : Below (P + 1) w1 w') => hS1.below h (Nat.lt_succ_self P))
        have HBX := Lib.hid (fun o => (box_below' o w1).block X hXl1)
        have HN1 := Lib.hid hN1
        go_wp2_with (first | (go_at_call 98; refine (HK.out _).mono ?_; rintro e w' ⟨rfl, rfl⟩) | fail)
        go_region_law (rw [if_pos (by rfl)]; refine oper_app _ (.tmp 33) (.tmp 42) 60 126 4 32 rfl elemS (P + 1) dv D.length (scells D) rfl hown1 (w1.heap.size + 1) _ 1 1 (scells [⟨t, x, 3, bb⟩]) rfl rfl (Cells.fresh w1 _ 126 _ _ rfl) (scells_one _) (by unfold maxLen; omega) (by omega) (by simp; omega) ?_; intro v3 w3 hown3 hgrow3 hat3; have ho3 := OwnS.of (a := D) (b := [⟨t, x, 3, bb⟩]) hown3 rfl; obtain ⟨A3, c3, hv3, -, -⟩ := ho3.form; have hv4 : v3 = .slice A3 (D.length + 1) c3 := (by rw [hv3]; simp); clear hv3; subst hv4; have hb3 : Below (P + 1) w1 w3 := (by first | exact HB.out.grown hgrow3 (by simp; omega) HO1.out | exact HB.out.drew.grown hgrow3 (by simp; omega) HO1.out); have hx3 : w3.heap[X]? = w1.heap[X]? := (by exact (hgrow3.block X (by simp; omega) (fun e => HN1.out e.symm)).trans (HBX.out _)); have hn3 : Value.ownBlock (.slice A3 (D.length + 1) c3) ≠ some X := (by rcases hat3 with q | q; (rw [q]; exact HN1.out); (rw [q]; intro q2; injection q2 with q2; simp at q2; omega)); have hS3 := HSS.out w3 hb3; obtain ⟨s30, s31, s32⟩ := hS3.cells; have sf3 := hS3.free 2)
        all_goals
          have hR3 := hR1.below hb3 (by omega)
          have hS2 := hS3.set2 (.slice A3 (D.length + 1) c3)
          have hR2 := hR3.other (g' := P) (k := 2) (u := .slice A3 (D.length + 1) c3) HPG.symm
          have hO2 := ho3.other (p := P) (k := 2) (u := .slice A3 (D.length + 1) c3) (by omega)
          have hK2 := (hK1.trans (Kept.of (hb3.mono (by omega)))).setHigh (p := P) (k := 2) (u := .slice A3 (D.length + 1) c3) (Nat.le_refl _)
          have hH2 := (Below.heap_setCell w3 ⟨P, 2, none⟩ (.slice A3 (D.length + 1) c3) X hXP).trans (hx3.trans hH1)
          clear hown1 hown3 hgrow3 hat3 ho3 hb3 hx3 HBX HN1 hH1 hS3 s30 s31 s32 sf3 hR3 HB HSS hS1 hR1 hO1 hK1 HO1 s0 s1 s2 sf1
          generalize w3.setCell ⟨P, 2, none⟩ _ = w4 at *
          go_wp2_with fail
          obtain ⟨s0, s1, s2⟩ := hS2.cells
          have sf := hS2.free 1
          go_region
          go_wp2_with fail
          refine ⟨⟨j + 1, by omega, by go_num, ?_⟩, by simp [intOf]; omega⟩
          rw [hHS.out, HX1.out]
          exact ⟨_, (hS2.set1 _).drew, (hR2.other HPG.symm).drew, (hO2.other (by omega)).drew, (hK2.setHigh (Nat.le_refl _)).drew, hn3, (Below.heap_setCell _ ⟨P, 1, none⟩ _ X hXP).trans hH2⟩
    · obtain rfl : j = many := by omega
      go_wp2_with fail
      exact bodyPost_end (v := .tuple #[]) (by simp [results, Try.results69, go_sem]) rfl ⟨rfl, hcur⟩
end Go.Proofs.Ytpccpkjfnmclfaa
