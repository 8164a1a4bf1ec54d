/- Rates of the program. -/
import Derived.Test.YtdcnpbdkhcdinaaRLowest
import Derived.Test.YtdcnpbdkhcdinaaTimeOf
import Derived.Laws.EntriesVeiled
import Derived.Deep.Cut
import Derived.Deep.DeepCutAuto
namespace Go.Proofs.Ytdcnpbdkhcdinaa
open Go.RowKit
attribute [local go_sem] setCell_draws alloc_draws

/-- what the checks of marks for rates say -/
def ckR (l : List Mk) : Int := if ckM l ≠ 0 then ckM l else if l.length = 1 then 11 else 0
/-- what Rates leaves -/
def RatesPost (l : List Mk) (w : World) (e : Ending) (w' : World) : Prop :=
  e = .returned (.tuple #[sv (if ckR l = 0 then lowQ (leastTo l (l.length - 1)) else (0, 0)), sv (if ckR l = 0 then lowQ (mostTo l (l.length - 1)) else (0, 0)), .int .i64 (ckR l)]) ∧ Below w.heap.size w w'
/-- two results' blocks -/
def twoQ (w : World) : World := (w.alloc (.cells #[.int .i64 0, .int .i64 0] 45)).alloc (.cells #[.int .i64 0, .int .i64 0] 45)
/-- a share in a block -/
def HeldQ (w : World) (p : Nat) (x : Nat × Nat) : Prop := w.heap[p]? = some (.cells #[.int .i64 x.1, .int .i64 x.2] 45 (0, 0))
theorem HeldQ.cells {w : World} {p : Nat} {x : Nat × Nat} (h : HeldQ w p x) : w.cell? ⟨p, 0, none⟩ = some (.int .i64 x.1) ∧ w.cell? ⟨p, 1, none⟩ = some (.int .i64 x.2) ∧ p < w.heap.size := by
  have hlt := lt_of_block h
  refine ⟨?_, ?_, hlt⟩
  · unfold HeldQ at h; simp [World.cell?, h]
  · unfold HeldQ at h; simp [World.cell?, h]
theorem HeldQ.free {w : World} {p : Nat} {x : Nat × Nat} (h : HeldQ w p x) (k : Nat) : w.frozen? ⟨p, k, none⟩ = false := by
  unfold HeldQ at h
  simp [World.frozen?, h]
theorem HeldQ.below {w w' : World} {p B : Nat} {x : Nat × Nat} (h : HeldQ w p x) (hb : Below B w w') (hp : p < B) : HeldQ w' p x := (hb.block p hp).trans h
theorem HeldQ.new (w : World) (x : Nat × Nat) : HeldQ (w.alloc (.cells #[.int .i64 x.1, .int .i64 x.2] 45)) w.heap.size x := heap_alloc_new w _
theorem HeldQ.set {w : World} {p : Nat} {x : Nat × Nat} (h : HeldQ w p x) (y : Nat × Nat) : HeldQ ((w.setCell ⟨p, 0, none⟩ (.int .i64 y.1)).setCell ⟨p, 1, none⟩ (.int .i64 y.2)) p y := by
  have hlt := lt_of_block h
  have h' : w.heap[p] = .cells #[.int .i64 x.1, .int .i64 x.2] 45 (0, 0) := by unfold HeldQ at h; simpa [Array.getElem?_eq_getElem hlt] using h
  unfold HeldQ
  simp only [World.setCell]
  rw [Array.getElem?_eq_getElem (by simpa using hlt), Array.getElem_modify_self, Array.getElem_modify_self, h']
  rfl
theorem HeldQ.drew {w : World} {p : Nat} {x : Nat × Nat} (h : HeldQ w p x) : HeldQ w.drew p x := h
theorem HeldQ.other {w : World} {q p k : Nat} {u : Value} {x : Nat × Nat} (h : HeldQ w q x) (hne : ¬ q = p) : HeldQ (w.setCell ⟨p, k, none⟩ u) q x := (Below.heap_setCell w ⟨p, k, none⟩ u q hne).trans h
theorem HeldQ.behind {w1 w3 : World} (x : Nat × Nat) (h : Below ((w1.alloc (.cells #[.int .i64 x.1, .int .i64 x.2] 45)).drew).heap.size ((w1.alloc (.cells #[.int .i64 x.1, .int .i64 x.2] 45)).drew) w3) : HeldQ w3 w1.heap.size x :=
  HeldQ.below (w := (w1.alloc (.cells #[.int .i64 x.1, .int .i64 x.2] 45)).drew) (HeldQ.new w1 x) h (by simp)
theorem carryC {f : FuncId} {args : Array Value} {w' W0 : World} {Q : Ending → Prop} {B : Nat} (h : Calls Try.prog f args w' fun e w'' => Q e ∧ Below w'.heap.size w' w'') (hb : Below B W0 w') (hB : B ≤ w'.heap.size) :
    Calls Try.prog f args w' fun e w'' => Q e ∧ Below B W0 w'' ∧ B ≤ w''.heap.size ∧ Below w'.heap.size w' w'' := h.mono fun _ _ ⟨a, b⟩ => ⟨a, hb.trans (b.mono hB), Nat.le_trans hB b.size, b⟩
/-- the head of the loop of Rates -/
def RatesAt (l : List Mk) (L G B : Nat) (W0 : World) (i : Value) (wr : World) : Prop :=
  ∃ k : Nat, k + 1 ≤ l.length ∧ i = .int .i64 k ∧ HeldQ wr L (leastTo l k) ∧ HeldQ wr G (mostTo l k) ∧ Below B W0 wr
set_option maxRecDepth 100000 in
set_option maxHeartbeats 4000000 in
theorem rates_any (A : Option Addr) (c : Nat) (l : List Mk) (w : World) (hl : l.length ≤ 9223372036854775807) (hA : MR w w.heap.size A l) :
    Calls Try.prog 26 #[.slice A l.length c] w (RatesPost l w) := by
  obtain ⟨W0, hW0⟩ : ∃ W0, W0 = twoQ w := ⟨_, rfl⟩
  have hb0 : Below w.heap.size w W0 := by rw [hW0]; exact ((Below.refl _ _).alloc (Nat.le_refl _) _).alloc (by simp) _
  have hsz : W0.heap.size = w.heap.size + 2 := by rw [hW0]; simp [twoQ]
  have hR2 : HeldQ W0 w.heap.size (0, 0) := by rw [hW0]; exact (HeldQ.new w (0, 0)).below ((Below.refl _ _).alloc (Nat.le_refl _) _) (by simp)
  have hR3 : HeldQ W0 (w.heap.size + 1) (0, 0) := by rw [hW0]; have := HeldQ.new (w.alloc (.cells #[.int .i64 0, .int .i64 0] 45)) (0, 0); simpa [twoQ] using this
  have hA0 := (hA.below hb0).lift hb0.size
  have HC := Lib.hid (checkMarks_any A c l W0 hl hA0)
  have hW1 := hW0.symm
  unfold twoQ at hW1
  unfold RatesPost
  by_cases h : ckM l = 0
  · rw [h] at HC
    by_cases h1 : l.length = 1
    · have hr : ckR l = 11 := by unfold ckR; rw [if_neg (by simpa using h), if_pos h1]
      rw [hr, if_neg (by omega), if_neg (by omega)]
      have d1 : ((l.length : Int) == 1) = true := by rw [beq_iff_eq]; omega
      clear hr h h1 hA hA0 hW0
      go_enter Try.func26, Try.ntmps26
      go_wp2_with fail
      refine HC.out.mono ?_
      rintro e w1 ⟨rfl, hb1⟩
      have q2 := hR2.below hb1 (by omega)
      have q3 := hR3.below hb1 (by omega)
      obtain ⟨a1, a2, a3⟩ := q2.cells
      obtain ⟨b1, b2, b3⟩ := q3.cells
      have a4 := q2.free 0
      have a5 := q2.free 1
      have b4 := q3.free 0
      have b5 := q3.free 1
      go_wp2_with fail
      exact bodyPost_ret (v := .tuple #[.agg #[.int .i64 0, .int .i64 0], .agg #[.int .i64 0, .int .i64 0], .int .i64 11]) (by simp [results, Try.results26, go_sem, a1, a2, b1, b2]) rfl ⟨rfl, ((((hb0.trans (hb1.mono (by omega))).setCell (by simp) _).setCell (by simp) _).setCell (by simp) _).setCell (by simp) _⟩
    · have hr : ckR l = 0 := by unfold ckR; rw [if_neg (by simpa using h), if_neg h1]
      obtain ⟨hpos, h2000, hok, hs⟩ := ckM_ok l h
      have h2 : 2 ≤ l.length := by omega
      rw [hr, if_pos rfl, if_pos rfl]
      obtain ⟨yl, hyl⟩ : ∃ yl, yl = lowQ (leastTo l (l.length - 1)) := ⟨_, rfl⟩
      obtain ⟨yg, hyg⟩ : ∃ yg, yg = lowQ (mostTo l (l.length - 1)) := ⟨_, rfl⟩
      rw [← hyl, ← hyg]
      have HYL := Lib.hid hyl
      have HYG := Lib.hid hyg
      clear hyl hyg
      have d1 : ((l.length : Int) == 1) = false := beq_eq_false_iff_ne.2 (by omega)
      have HS := Lib.hid (show Sorted l from hs)
      have HOK := Lib.hid hok
      obtain ⟨ad, rfl, had, c0, c1, c2⟩ := hA0.get 0 (by omega)
      obtain ⟨ad', hadd, -, e0, e1, e2⟩ := hA0.get 1 (by omega)
      obtain rfl : ad = ad' := by injection hadd
      clear hr h h1 hW0 hs hok hadd
      go_enter Try.func26, Try.ntmps26
      go_wp2_with fail
      refine HC.out.mono ?_
      rintro e w1 ⟨rfl, hb1⟩
      have hx0 := rateAt_ok HOK.out HS.out 0 (by omega)
      have hxe := rateAt_get l 0 (by omega)
      have HR := Lib.hid (fun (w' : World) => rate_any l[0] l[1] (rateAt l 0) (by rw [hxe]; have := (HS.out 0 (by omega)).2; simp only [Nat.zero_add] at this ⊢; omega) (by rw [hxe]; have := (HS.out 0 (by omega)).1; simp only [Nat.zero_add] at this ⊢; omega) hx0.1.2 hx0.2.2 w')
      generalize l[0] = m0 at *
      generalize l[1] = m1 at *
      obtain ⟨xt, xz, xo⟩ := m0
      obtain ⟨yt, yz, yo⟩ := m1
      rw [Nat.zero_mul, addr_zero] at c0 c1 c2
      simp only at c0 c1 c2 e0 e1 e2
      unfold mv sv at HR
      simp only at HR
      have e0' : W0.cell? ⟨ad.block, ad.off + 3, none⟩ = some (.int .i64 yt) := by simpa [Addr.add] using e0
      have e1' : W0.cell? ⟨ad.block, ad.off + 3 + 1, none⟩ = some (.int .i64 yz) := by simpa [Addr.add] using e1
      have e2' : W0.cell? ⟨ad.block, ad.off + 3 + 2, none⟩ = some (.int .i64 yo) := by simpa [Addr.add] using e2
      have HSS : Hid (∀ w', Below (w.heap.size + 2) W0 w' → (w'.cell? ad = some (.int .i64 xt) ∧ w'.cell? ⟨ad.block, ad.off + 1, none⟩ = some (.int .i64 xz) ∧ w'.cell? ⟨ad.block, ad.off + 2, none⟩ = some (.int .i64 xo) ∧ w'.cell? ⟨ad.block, ad.off + 3, none⟩ = some (.int .i64 yt) ∧ w'.cell? ⟨ad.block, ad.off + 3 + 1, none⟩ = some (.int .i64 yz) ∧ w'.cell? ⟨ad.block, ad.off + 3 + 2, none⟩ = some (.int .i64 yo))) := Lib.hid fun w' hw =>
        ⟨(hw.cell (by omega)).trans c0, (Below.at_ hw _ (by omega) _).trans c1, (Below.at_ hw _ (by omega) _).trans c2, (Below.at_ hw _ (by omega) _).trans e0', (Below.at_ hw _ (by omega) _).trans e1', (Below.at_ hw _ (by omega) _).trans e2'⟩
      obtain ⟨x0, hx0e⟩ : ∃ x0, x0 = rateAt l 0 := ⟨_, rfl⟩
      rw [← hx0e] at HR hx0
      have HX0 := Lib.hid hx0e
      clear hx0e
      have hbB : Below (w.heap.size + 2) W0 w1 := hb1.mono (by omega)
      have hzB : w.heap.size + 2 ≤ w1.heap.size := by have := hb1.size; omega
      have i1 : (1 : Int) < (l.length : Int) := by omega
      have i2 : 1 < l.length := by omega
      clear e0 e1 e2 hxe
      go_upto_region 6 with fail
      go_cut [6] (fun s6 wx => ∃ L : Nat, s6 = .pointer (some ⟨L, 0, none⟩) ∧ w.heap.size + 2 ≤ L ∧ HeldQ wx L x0 ∧ Below (w.heap.size + 2) W0 wx)
      case first =>
        go_region_held3 (fun w' => w'.cell? ad = some (.int .i64 xt) ∧ w'.cell? ⟨ad.block, ad.off + 1, none⟩ = some (.int .i64 xz) ∧ w'.cell? ⟨ad.block, ad.off + 2, none⟩ = some (.int .i64 xo) ∧ w'.cell? ⟨ad.block, ad.off + 3, none⟩ = some (.int .i64 yt) ∧ w'.cell? ⟨ad.block, ad.off + 3 + 1, none⟩ = some (.int .i64 yz) ∧ w'.cell? ⟨ad.block, ad.off + 3 + 2, none⟩ = some (.int .i64 yo))
          (first | exact HSS.out _ hbB.drew | exact HSS.out _ hbB | exact HSS.out _ (by assumption) | exact HSS.out _ (Below.drew (by assumption)) | exact HSS.out _ ((Below.alloc (by assumption) (by omega) _)) | exact HSS.out _ ((hbB.alloc hzB _).drew) | exact HSS.out _ (hbB.alloc hzB _) | exact HSS.out _ (((Below.setCell (by assumption) hzB _).setCell hzB _)) | exact HSS.out _ ((((Below.setCell (by assumption) hzB _).setCell hzB _).drew)) | go_keep)
          (first
           | (go_at_call 55
              refine (carryC (B := w.heap.size + 2) (W0 := W0) (HR.out _) ?_ ?_).mono ?_
              · first | exact hbB.drew | exact hbB | exact (hbB.alloc hzB _).drew | exact hbB.alloc hzB _
              · first | exact hzB | (simp; omega)
              rintro e w3 ⟨rfl, hb3, hz3, hb4⟩
              first
              | (have hq := HeldQ.behind (0, 0) hb4
                 obtain ⟨g1, g2, -⟩ := hq.cells
                 have g3 := hq.free 0
                 have g4 := hq.free 1)
              | skip))
        all_goals
          go_wp2_with fail
          go_meet
          first
          | exact ⟨w3.heap.size, rfl, hz3, HeldQ.new w3 x0, hb3.alloc hz3 _⟩
          | exact ⟨w1.heap.size, rfl, hzB, hq.set x0, (hb3.setCell hzB _).setCell hzB _⟩
      case rest =>
        obtain ⟨L, rfl, hL, hq, hb⟩ := hcut
        obtain ⟨p1, p2, p3⟩ := hq.cells
        have hBz := hb.size
        clear HSS HR e0' e1' e2' hbB hzB hb1 HC
        go_wp2_with fail
        go_loopw [33] (fun i wr => RatesAt l L wc.heap.size (w.heap.size + 2) W0 i wr) (fun i _ => l.length - (intOf i).toNat)
        case atStart =>
          refine ⟨0, by omega, rfl, ?_, ?_, hb.alloc (by omega) _⟩
          · show HeldQ _ L (rateAt l 0)
            rw [← HX0.out]
            exact hq.below ((Below.refl _ _).alloc (Nat.le_refl _) _) p3
          · show HeldQ _ _ (rateAt l 0)
            rw [← HX0.out]
            exact HeldQ.new wc x0
        case round =>
          obtain ⟨k, hk, rfl, hql, hqg, hb⟩ := hrel
          have hLG : L < wc.heap.size := p3
          generalize wc.heap.size = G at *
          clear p1 p2
          have hzr := hb.size
          by_cases hlt : k + 1 < l.length
          · obtain ⟨J, hJ⟩ : ∃ J, J = k + 1 := ⟨_, rfl⟩
            have hJl : J < l.length := by omega
            have hkl : k < l.length := by omega
            have hAr := hA0.below (hb.mono (by omega))
            obtain ⟨ad1, hadd1, -, c0, c1, c2⟩ := (hA.below hb0).below (hb.mono (by omega)) |>.get k hkl
            obtain rfl : ad = ad1 := by injection hadd1
            obtain ⟨ad2, hadd2, -, d0, d1, d2⟩ := (hA.below hb0).below (hb.mono (by omega)) |>.get J hJl
            obtain rfl : ad = ad2 := by injection hadd2
            have hx := rateAt_ok HOK.out HS.out k hlt
            have hxe := rateAt_get l k hlt
            have hss := HS.out k hlt
            have HR := Lib.hid (fun (w' : World) => rate_any l[k] l[J] (rateAt l k) (by subst hJ; rw [hxe]; have := hss.2; simp only; omega) (by subst hJ; rw [hxe]; have := hss.1; simp only; omega) hx.1.2 hx.2.2 w')
            have HLT : Hid (leastTo l J = minQ (leastTo l k) (rateAt l k)) := Lib.hid (by subst hJ; rfl)
            have HGT : Hid (mostTo l J = maxQ (mostTo l k) (rateAt l k)) := Lib.hid (by subst hJ; rfl)
            have hlo := (leastTo_ok HOK.out HS.out h2 k (by omega))
            obtain ⟨xl, hxl⟩ : ∃ xl, xl = leastTo l k := ⟨_, rfl⟩
            obtain ⟨xg, hxg⟩ : ∃ xg, xg = mostTo l k := ⟨_, rfl⟩
            obtain ⟨x, hxx⟩ : ∃ x, x = rateAt l k := ⟨_, rfl⟩
            rw [← hxl, ← hxg] at hlo
            rw [← hxl] at hql HLT
            rw [← hxg] at hqg HGT
            rw [← hxx] at HR hx HLT HGT
            have HJK := Lib.hid hJ
            generalize l[k] = m0 at *
            generalize l[J] = m1 at *
            obtain ⟨xt, xz, xo⟩ := m0
            obtain ⟨yt, yz, yo⟩ := m1
            simp only at c0 c1 c2 d0 d1 d2
            unfold mv sv at HR
            simp only at HR
            have i0 : (0 : Int) ≤ (k : Int) := by omega
            have i1 : (k : Int) < (l.length : Int) := by omega
            have i2 : (0 : Int) ≤ (J : Int) := by omega
            have i3 : (J : Int) < (l.length : Int) := by omega
            have i4 : (k : Int) + 1 = (J : Int) := by omega
            have hj1 : -9223372036854775808 ≤ (J : Int) ∧ (J : Int) ≤ 9223372036854775807 := by omega
            have i8 : (k : Int) < (l.length : Int) - 1 := by omega
            have i9 : decide ((k : Int) < (l.length : Int) - 1) = true := by simp; omega
            have hbr : Below wr.heap.size wr wr := Below.refl _ _
            have hzz : wr.heap.size ≤ wr.heap.size := Nat.le_refl _
            have HSS : Hid (∀ w', Below wr.heap.size wr w' → (w'.cell? (ad.add (k * 3)) = some (.int .i64 xt) ∧ w'.cell? ⟨(ad.add (k * 3)).block, (ad.add (k * 3)).off + 1, none⟩ = some (.int .i64 xz) ∧ w'.cell? ⟨(ad.add (k * 3)).block, (ad.add (k * 3)).off + 2, none⟩ = some (.int .i64 xo) ∧ w'.cell? (ad.add (J * 3)) = some (.int .i64 yt) ∧ w'.cell? ⟨(ad.add (J * 3)).block, (ad.add (J * 3)).off + 1, none⟩ = some (.int .i64 yz) ∧ w'.cell? ⟨(ad.add (J * 3)).block, (ad.add (J * 3)).off + 2, none⟩ = some (.int .i64 yo))) := Lib.hid fun w' hw =>
              ⟨(hw.cell (by rw [add_block]; omega)).trans c0, (Below.at_ hw _ (by rw [add_block]; omega) _).trans c1, (Below.at_ hw _ (by rw [add_block]; omega) _).trans c2, (hw.cell (by rw [add_block]; omega)).trans d0, (Below.at_ hw _ (by rw [add_block]; omega) _).trans d1, (Below.at_ hw _ (by rw [add_block]; omega) _).trans d2⟩
            clear hJ hxl hxg hxx hadd1 hadd2 c0 c1 c2 d0 d1 d2 hxe hss hAr hlt
            have i7 : IntKind.i64.wrap (J : Int) = (J : Int) := IntWalk.i64_in _ hj1
            have i5 : IntKind.i64.wrap ((k : Int) + 1) = (J : Int) := by rw [i4]; exact i7
            have i6 : wrap64 ((k : Int) + 1) = (J : Int) := by rw [i4]; exact IntWalk.wrap64_in _ hj1
            clear hj1
            go_upto_region 11 with fail
            go_cut [9] (fun s9 wx => ∃ R : Nat, s9 = .pointer (some ⟨R, 0, none⟩) ∧ wr.heap.size ≤ R ∧ HeldQ wx R x ∧ Below wr.heap.size wr wx)
            case first =>
              go_region_held3 (fun w' => w'.cell? (ad.add (k * 3)) = some (.int .i64 xt) ∧ w'.cell? ⟨(ad.add (k * 3)).block, (ad.add (k * 3)).off + 1, none⟩ = some (.int .i64 xz) ∧ w'.cell? ⟨(ad.add (k * 3)).block, (ad.add (k * 3)).off + 2, none⟩ = some (.int .i64 xo) ∧ w'.cell? (ad.add (J * 3)) = some (.int .i64 yt) ∧ w'.cell? ⟨(ad.add (J * 3)).block, (ad.add (J * 3)).off + 1, none⟩ = some (.int .i64 yz) ∧ w'.cell? ⟨(ad.add (J * 3)).block, (ad.add (J * 3)).off + 2, none⟩ = some (.int .i64 yo))
                (first | exact HSS.out _ hbr.drew | exact HSS.out _ hbr | exact HSS.out _ (by assumption) | exact HSS.out _ (Below.drew (by assumption)) | exact HSS.out _ ((Below.alloc (by assumption) (by omega) _)) | exact HSS.out _ ((hbr.alloc hzz _).drew) | exact HSS.out _ (hbr.alloc hzz _) | exact HSS.out _ (((Below.setCell (by assumption) hzz _).setCell hzz _)) | exact HSS.out _ ((((Below.setCell (by assumption) hzz _).setCell hzz _).drew)) | go_keep)
                (first
                 | (go_at_call 55
                    refine (carryC (B := wr.heap.size) (W0 := wr) (HR.out _) ?_ ?_).mono ?_
                    · first | exact hbr.drew | exact hbr | exact (hbr.alloc hzz _).drew | exact hbr.alloc hzz _
                    · first | exact hzz | (simp; omega) | (simp; done)
                    rintro e w3 ⟨rfl, hb3, hz3, hb4⟩
                    first
                    | (have hq := HeldQ.behind (0, 0) hb4
                       obtain ⟨g1, g2, -⟩ := hq.cells
                       have g3 := hq.free 0
                       have g4 := hq.free 1)
                    | skip))
              all_goals
                go_wp2_with fail
                go_meet
                first
                | exact ⟨w3.heap.size, rfl, hz3, HeldQ.new w3 x, hb3.alloc hz3 _⟩
                | exact ⟨wr.heap.size, rfl, hzz, hq.set x, (hb3.setCell hzz _).setCell hzz _⟩
            case rest =>
              clear i5 i6 i7 HSS HR
              obtain ⟨R, rfl, hR, hqr, hbx⟩ := hcut
              have hLr := hql.cells.2.2
              have hGr := hqg.cells.2.2
              have hxb := hx
              obtain ⟨⟨hx1, hx2⟩, hx3, hx4⟩ := hx
              obtain ⟨⟨⟨l1, l2⟩, l3, l4⟩, ⟨g1, g2⟩, g3, g4⟩ := hlo
              have HB1 := Lib.hid (fun w => below_any x xl (by omega) (by omega) (by omega) (by omega) w)
              have HB2 := Lib.hid (fun w => below_any xg x (by omega) (by omega) (by omega) (by omega) w)
              unfold sv at HB1 HB2
              have hqlc := hql.below hbx hLr
              have hqgc := hqg.below hbx hGr
              have hRw := hqr.cells.2.2
              have nLG : ¬ L = G := by omega
              have nGL : ¬ G = L := by omega
              have nRL : ¬ R = L := by omega
              have nRG : ¬ R = G := by omega
              have nLR : ¬ L = R := by omega
              have nGR : ¬ G = R := by omega
              have hLc : L < wc.heap.size := by omega
              have hGc : G < wc.heap.size := by omega
              have hGb : w.heap.size + 2 ≤ G := by omega
              obtain ⟨a1, a2, -⟩ := hqr.cells
              obtain ⟨a3, a4, -⟩ := hqlc.cells
              have hbW : Below (w.heap.size + 2) W0 wc := hb.trans (hbx.mono (by omega))
              have HLT2 : Hid (∀ b, lessQ x xl = b → leastTo l J = if b then x else xl) := Lib.hid fun b hb => by rw [HLT.out]; unfold minQ; rw [hb]
              have HGT2 : Hid (∀ b, lessQ xg x = b → mostTo l J = if b then x else xg) := Lib.hid fun b hb => by rw [HGT.out]; unfold maxQ; rw [hb]
              generalize hq1 : lessQ x xl = q1 at *
              generalize hq2 : lessQ xg x = q2 at *
              have HL := Lib.hid (HLT2.out q1 rfl)
              have HG := Lib.hid (HGT2.out q2 rfl)
              clear HLT HGT HLT2 HGT2 hq1 hq2 hx1 hx2 hx3 hx4 l1 l2 l3 l4 g1 g2 g3 g4 hql hqg hxb
              go_wp2_with fail
              refine (HB1.out _).mono ?_
              rintro e w5 ⟨rfl, hb5⟩
              have hqr5 := hqr.below hb5 hRw
              have hql5 := hqlc.below hb5 hLc
              have hqg5 := hqgc.below hb5 hGc
              have hbW5 := hbW.trans (hb5.mono (by omega))
              have hs5 := hb5.size
              clear hqlc hqgc hqr a1 a2 a3 a4 hb5
              obtain ⟨a1, a2, -⟩ := hqr5.cells
              obtain ⟨a3, a4, -⟩ := hql5.cells
              obtain ⟨a5, a6, -⟩ := hqg5.cells
              have a7 := hql5.free 0
              have a8 := hql5.free 1
              rcases q1 with _ | _
              · go_wp2_with fail
                refine (HB2.out _).mono ?_
                rintro e w7 ⟨rfl, hb7⟩
                have hqr7 := hqr5.below hb7 (by omega)
                have hql7 := hql5.below hb7 (by omega)
                have hqg7 := hqg5.below hb7 (by omega)
                have hbW7 := hbW5.trans (hb7.mono (by omega))
                clear hb7 a1 a2 a3 a4 a5 a6 a7 a8 hqr5 hql5 hqg5
                obtain ⟨a1, a2, -⟩ := hqr7.cells
                obtain ⟨a5, a6, -⟩ := hqg7.cells
                have a7 := hqg7.free 0
                have a8 := hqg7.free 1
                rcases q2 with _ | _
                · go_wp2_with fail
                  go_roundw
                  case rel => exact ⟨J, by omega, by first | rfl | rw [i4], by rw [HL.out]; exact hql7, by rw [HG.out]; exact hqg7, hbW7⟩
                  case measure => simp [intOf]; omega
                · go_wp2_with fail
                  go_roundw
                  case rel => exact ⟨J, by omega, by first | rfl | rw [i4], by rw [HL.out]; exact (hql7.other nLG).other nLG, by rw [HG.out]; exact hqg7.set x, (hbW7.setCell hGb _).setCell hGb _⟩
                  case measure => simp [intOf]; omega
              · go_wp2_with fail
                refine (HB2.out _).mono ?_
                rintro e w7 ⟨rfl, hb7⟩
                have hz6 : ((w5.setCell ⟨L, 0, none⟩ (.int .i64 x.1)).setCell ⟨L, 1, none⟩ (.int .i64 x.2)).heap.size = w5.heap.size := by simp [World.setCell]
                have hqr7 := ((hqr5.other (k := 0) (u := .int .i64 x.1) nRL).other (k := 1) (u := .int .i64 x.2) nRL).below hb7 (by rw [hz6]; omega)
                have hql7 := (hql5.set x).below hb7 (by rw [hz6]; omega)
                have hqg7 := ((hqg5.other (k := 0) (u := .int .i64 x.1) nGL).other (k := 1) (u := .int .i64 x.2) nGL).below hb7 (by rw [hz6]; omega)
                have hbW7 := ((hbW5.setCell hL _).setCell hL _).trans (hb7.mono (by rw [hz6]; omega))
                clear hb7 a1 a2 a3 a4 a5 a6 a7 a8 hqr5 hql5 hqg5
                obtain ⟨a1, a2, -⟩ := hqr7.cells
                obtain ⟨a5, a6, -⟩ := hqg7.cells
                have a7 := hqg7.free 0
                have a8 := hqg7.free 1
                rcases q2 with _ | _
                · go_wp2_with fail
                  go_roundw
                  case rel => exact ⟨J, by omega, by first | rfl | rw [i4], by rw [HL.out]; exact hql7, by rw [HG.out]; exact hqg7, hbW7⟩
                  case measure => simp [intOf]; omega
                · go_wp2_with fail
                  go_roundw
                  case rel => exact ⟨J, by omega, by first | rfl | rw [i4], by rw [HL.out]; exact (hql7.other nLG).other nLG, by rw [HG.out]; exact hqg7.set x, (hbW7.setCell hGb _).setCell hGb _⟩
                  case measure => simp [intOf]; omega
          · have hke : k = l.length - 1 := by omega
            have hLr := hql.cells.2.2
            have hGr := hqg.cells.2.2
            have hlo := (leastTo_ok HOK.out HS.out h2 k hk)
            obtain ⟨xl, hxl⟩ : ∃ xl, xl = leastTo l k := ⟨_, rfl⟩
            obtain ⟨xg, hxg⟩ : ∃ xg, xg = mostTo l k := ⟨_, rfl⟩
            rw [← hxl, ← hxg] at hlo
            have hyl : lowQ xl = yl := by rw [HYL.out, ← hke, hxl]
            have hyg : lowQ xg = yg := by rw [HYG.out, ← hke, hxg]
            rw [← hxl] at hql
            rw [← hxg] at hqg
            have HLL := Lib.hid (fun w => lowest_any xl hlo.1.1 hlo.1.2.2 w)
            have HLG := Lib.hid (fun w => lowest_any xg hlo.2.1 hlo.2.2.2 w)
            rw [hyl] at HLL
            rw [hyg] at HLG
            unfold sv at HLL HLG
            have hr2 := hR2.below hb (by omega)
            have hr3 := hR3.below hb (by omega)
            have n1 : ¬ L = w.heap.size := by omega
            have n2 : ¬ L = w.heap.size + 1 := by omega
            have n3 : ¬ G = w.heap.size := by omega
            have n4 : ¬ G = w.heap.size + 1 := by omega
            have i8 : ¬ (k : Int) < (l.length : Int) - 1 := by omega
            have i9 : decide ((k : Int) < (l.length : Int) - 1) = false := by simp; omega
            have HSS : Hid (∀ w', HeldQ w' L xl → HeldQ w' G xg → (w'.cell? ⟨L, 0, none⟩ = some (.int .i64 xl.1) ∧ w'.cell? ⟨L, 1, none⟩ = some (.int .i64 xl.2) ∧ w'.cell? ⟨G, 0, none⟩ = some (.int .i64 xg.1) ∧ w'.cell? ⟨G, 1, none⟩ = some (.int .i64 xg.2))) := Lib.hid fun w' h1 h2 =>
              ⟨h1.cells.1, h1.cells.2.1, h2.cells.1, h2.cells.2.1⟩
            have hbr : Below wr.heap.size wr wr := Below.refl _ _
            have hzz : wr.heap.size ≤ wr.heap.size := Nat.le_refl _
            have HC1 := Lib.hid (fun (w' : World) (hb : Below wr.heap.size wr w') (hz : wr.heap.size ≤ w'.heap.size) => carryB (HLL.out w') hb hz)
            have HC2 := Lib.hid (fun (w' : World) (hb : Below wr.heap.size wr w') (hz : wr.heap.size ≤ w'.heap.size) => carryB (HLG.out w') hb hz)
            have HBL : Hid (∀ w', Below wr.heap.size wr w' → HeldQ w' L xl ∧ HeldQ w' G xg ∧ HeldQ w' w.heap.size (0, 0) ∧ HeldQ w' (w.heap.size + 1) (0, 0)) := Lib.hid fun w' h =>
              ⟨hql.below h hLr, hqg.below h hGr, hr2.below h (by omega), hr3.below h (by omega)⟩
            clear hxl hxg hlo HLL HLG hyl hyg hke HYL HYG
            go_wp2_with fail
            go_region_held3 (fun w' => w'.cell? ⟨L, 0, none⟩ = some (.int .i64 xl.1) ∧ w'.cell? ⟨L, 1, none⟩ = some (.int .i64 xl.2) ∧ w'.cell? ⟨G, 0, none⟩ = some (.int .i64 xg.1) ∧ w'.cell? ⟨G, 1, none⟩ = some (.int .i64 xg.2))
              (first | with_reducible exact HSS.out _ hql hqg | with_reducible exact HSS.out _ hql.drew hqg.drew | with_reducible exact HSS.out _ hl5 hg5 | with_reducible exact HSS.out _ hl5.drew hg5.drew | with_reducible exact HSS.out _ hl6 hg6 | with_reducible exact HSS.out _ hl6.drew hg6.drew | with_reducible exact HSS.out _ ((hl6.other n1).other n1) ((hg6.other n3).other n3) | with_reducible exact HSS.out _ ((hl6.other n1).other n1).drew ((hg6.other n3).other n3).drew | with_reducible exact HSS.out _ ((((hl6.other n1).other n1).other n2).other n2) ((((hg6.other n3).other n3).other n4).other n4) | with_reducible exact HSS.out _ ((((hl6.other n1).other n1).other n2).other n2).drew ((((hg6.other n3).other n3).other n4).other n4).drew | go_keep)
              (first
               | (go_at_call 57
                  with_reducible refine (HC1.out _ ?_ ?_).mono ?_
                  · first | with_reducible exact hbr.drew | with_reducible exact hbr | with_reducible assumption | with_reducible exact Below.drew hb5 | with_reducible exact hb5
                  · first | with_reducible exact hzz | with_reducible assumption | (simp; done) | (simp; omega)
                  rintro e w5 ⟨rfl, hb5, hz5⟩
                  obtain ⟨hl5, hg5, -, -⟩ := HBL.out _ hb5)
               | (go_at_call 57
                  with_reducible refine (HC2.out _ ?_ ?_).mono ?_
                  · first | with_reducible exact hbr.drew | with_reducible exact hbr | with_reducible assumption | with_reducible exact Below.drew hb5 | with_reducible exact hb5
                  · first | with_reducible exact hzz | with_reducible assumption | (simp; done) | (simp; omega)
                  rintro e w6 ⟨rfl, hb6, hz6⟩
                  obtain ⟨hl6, hg6, hr6, hr7⟩ := HBL.out _ hb6
                  obtain ⟨g1, g2, -⟩ := hr6.cells
                  obtain ⟨g3, g4, -⟩ := hr7.cells
                  have g5 := hr6.free 0
                  have g6 := hr6.free 1
                  have g7 := hr7.free 0
                  have g8 := hr7.free 1))
            all_goals
              go_wp2_with fail
              exact bodyPost_ret (v := .tuple #[.agg #[.int .i64 yl.1, .int .i64 yl.2], .agg #[.int .i64 yg.1, .int .i64 yg.2], .int .i64 0]) (by simp [results, Try.results26, go_sem, g1, g2, g3, g4]) rfl ⟨rfl, ((((hb0.trans ((hb.trans (hb6.mono (by omega))).mono (by omega))).setCell (by simp) _).setCell (by simp) _).setCell (by simp) _).setCell (by simp) _⟩
  · have hr : ckR l = ckM l := by unfold ckR; rw [if_pos h]
    rw [hr, if_neg h, if_neg h]
    generalize ckM l = r at *
    have hne : (r != 0) = true := by simpa using h
    clear hr h hA hA0 hW0
    go_enter Try.func26, Try.ntmps26
    go_wp2_with fail
    refine HC.out.mono ?_
    rintro e w1 ⟨rfl, hb1⟩
    have q2 := hR2.below hb1 (by omega)
    have q3 := hR3.below hb1 (by omega)
    obtain ⟨a1, a2, a3⟩ := q2.cells
    obtain ⟨b1, b2, b3⟩ := q3.cells
    have a4 := q2.free 0
    have a5 := q2.free 1
    have b4 := q3.free 0
    have b5 := q3.free 1
    go_wp2_with fail
    exact bodyPost_ret (v := .tuple #[.agg #[.int .i64 0, .int .i64 0], .agg #[.int .i64 0, .int .i64 0], .int .i64 r]) (by simp [results, Try.results26, go_sem, a1, a2, b1, b2]) rfl ⟨rfl, ((((hb0.trans (hb1.mono (by omega))).setCell (by simp) _).setCell (by simp) _).setCell (by simp) _).setCell (by simp) _⟩
end Go.Proofs.Ytdcnpbdkhcdinaa
