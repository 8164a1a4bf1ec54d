/- Clashes of the program. -/
import Derived.Test.YthhgcnfkdlblnaaWindow
import Derived.Test.YthhgcnfkdlblnaaTurn
import Derived.Deep.RegionHeld3
namespace Go.Proofs.Ythhgcnfkdlblnaa
open Go.RowKit

theorem carryB {f : FuncId} {args : Array Value} {w' W0 : World} {Q : Ending → Prop} {B : Nat} (h : Calls Try.prog f args w' fun e w'' => Q e ∧ Below w'.heap.size w' w'') (hb : Below B W0 w') (hB : B ≤ w'.heap.size) :
    Calls Try.prog f args w' fun e w'' => Q e ∧ Below B W0 w'' ∧ B ≤ w''.heap.size := h.mono fun _ _ ⟨a, b⟩ => ⟨a, hb.trans (b.mono hB), Nat.le_trans hB b.size⟩
/-- the head of the loop of contradicted -/
def ConAt (s f : Int) (l : List Mk) (x : Mk) (w : World) (i : Value) (wr : World) : Prop :=
  ∃ k : Nat, k ≤ l.length ∧ i = .int .i64 k ∧ Below (w.heap.size + 1) (boxed s f w) wr ∧ (l.take k).any (badP s f x) = false
set_option maxRecDepth 100000 in
set_option maxHeartbeats 2000000 in
theorem contradicted_any (s f : Int) (A : Option Addr) (c : Nat) (l : List Mk) (k0 : Nat) (w : World) (hk0 : k0 < l.length) (hs : 1 ≤ s ∧ s ≤ 1000000) (hf : 1 ≤ f ∧ f ≤ 1000000) (hok : ∀ x ∈ l, x.ok) (h2000 : l.length ≤ 2000) (hA : MR w w.heap.size A l) :
    Calls Try.prog 71 #[cv s f, .slice A l.length c, .int .i64 k0] w fun e w' => e = .returned (.bool (conB s f l l[k0])) ∧ Below w.heap.size w w' := by
  obtain ⟨ad0, hA0, had0, c0, c1, c2⟩ := hA.get k0 hk0
  have hx0 := hok _ (List.getElem_mem hk0)
  generalize hx : l[k0] = x at *
  obtain ⟨r, hr⟩ : ∃ r, r = conB s f l x := ⟨_, rfl⟩
  rw [← hr]
  have HR := Lib.hid hr
  clear hr hx
  have HO := Lib.hid (fun w => own_any x hx0 w)
  have HRC := Lib.hid (fun (y : Mk) (hy : y.ok) (w' : World) => reach_any s f y x.t hs hf hy hx0.1 w')
  have HOK := Lib.hid hok
  obtain ⟨xt, xz, xo⟩ := x
  obtain ⟨⟨x1, x2⟩, ⟨x3, x4⟩, ⟨x5, x6⟩⟩ := hx0
  unfold mv at HO HRC
  unfold cv at *
  simp only at c0 c1 c2 HO HRC x1 x2 x3 x4 x5 x6
  clear hs hf hok
  subst hA0
  go_enter Try.func71, Try.ntmps71
  have b0 := boxed_below s f w
  have e0 := (b0.cell (p := ad0.add (k0 * 3)) (by rw [add_block]; omega)).trans c0
  have e1 := (b0.cell (p := ⟨(ad0.add (k0 * 3)).block, (ad0.add (k0 * 3)).off + 1, none⟩) (by show (ad0.add _).block < _; rw [add_block]; omega)).trans c1
  have e2 := (b0.cell (p := ⟨(ad0.add (k0 * 3)).block, (ad0.add (k0 * 3)).off + 2, none⟩) (by show (ad0.add _).block < _; rw [add_block]; omega)).trans c2
  unfold boxed at e0 e1 e2
  go_wp2_with fail
  refine (HO.out _).mono ?_
  rintro e w1 ⟨rfl, hb1⟩
  have hb2 : Below (w.heap.size + 1) (boxed s f w) w1 := hb1.mono (by simp)
  clear hb1 HO e0 e1 e2 b0
  go_wp2_with fail
  go_loopw [23] (fun i wr => ConAt s f l ⟨xt, xz, xo⟩ w i wr) (fun i _ => l.length - (intOf i).toNat)
  case atStart => exact ⟨0, Nat.zero_le _, rfl, hb2, by simp⟩
  case round =>
    obtain ⟨k, hk, rfl, hb, hany⟩ := hrel
    have HAN := Lib.hid hany
    clear hany hb2
    by_cases hlt : k < l.length
    · have hbw := boxed_all hb
      have hAr := hA.below hbw
      obtain ⟨ad, hadd, had, d0, d1, d2⟩ := hAr.get k hlt
      obtain rfl : ad0 = ad := by injection hadd
      have e0 := (hbw.cell (p := ad0.add (k0 * 3)) (by rw [add_block]; omega)).trans c0
      obtain ⟨fa, fb⟩ := boxed_cells hb
      have hz1 : w.heap.size < wr.heap.size := by have := hb.size; rw [boxed_size] at this; omega
      have HRK := Lib.hid (HRC.out l[k] (HOK.out _ (List.getElem_mem hlt)))
      have HT := Lib.hid (any_take_one (badP s f ⟨xt, xz, xo⟩) l k hlt)
      have HH := Lib.hid (fun h => any_hit (badP s f ⟨xt, xz, xo⟩) l k hlt h)
      have HBP : Hid (badP s f ⟨xt, xz, xo⟩ l[k] = decide ((reachF s f l[k] xt).2 < xz - xo ∨ xz + xo < (reachF s f l[k] xt).1)) := Lib.hid rfl
      clear hadd c1 c2 hAr
      generalize l[k] = m at *
      obtain ⟨yt, yz, yo⟩ := m
      simp only at d0 d1 d2 HRK
      go_wp2_with fail
      generalize hwn : wr.alloc (.cells #[.int .i64 yt, .int .i64 yz, .int .i64 yo] 41) = wn
      have hAn : Below wr.heap.size wr wn := by rw [← hwn]; exact (Below.refl _ _).alloc (Nat.le_refl _) _
      have hsz : wn.heap.size = wr.heap.size + 1 := by rw [← hwn]; simp
      have m0 : wn.cell? ⟨wr.heap.size, 0, none⟩ = some (.int .i64 yt) := by rw [← hwn]; simp
      have m1 : wn.cell? ⟨wr.heap.size, 1, none⟩ = some (.int .i64 yz) := by rw [← hwn]; simp
      have m2 : wn.cell? ⟨wr.heap.size, 2, none⟩ = some (.int .i64 yo) := by rw [← hwn]; simp
      rw [← hAn.cell (by rw [add_block]; omega)] at e0
      rw [← hAn.cell hz1] at fa fb
      have hbn : Below (w.heap.size + 1) (boxed s f w) wn := hb.trans (hAn.mono (by omega))
      clear hwn d0 d1 d2
      have hS : ∀ w', Below wn.heap.size wn w' → (w'.cell? ⟨w.heap.size, 0, none⟩ = some (.int .i64 s) ∧ w'.cell? ⟨w.heap.size, 1, none⟩ = some (.int .i64 f) ∧ w'.cell? ⟨wr.heap.size, 0, none⟩ = some (.int .i64 yt) ∧ w'.cell? ⟨wr.heap.size, 1, none⟩ = some (.int .i64 yz) ∧ w'.cell? ⟨wr.heap.size, 2, none⟩ = some (.int .i64 yo) ∧ w'.cell? (ad0.add (k0 * 3)) = some (.int .i64 xt)) := fun w' hw =>
        ⟨(Below.at_ hw _ (by omega) _).trans fa, (Below.at_ hw _ (by omega) _).trans fb, (Below.at_ hw _ (by omega) _).trans m0, (Below.at_ hw _ (by omega) _).trans m1, (Below.at_ hw _ (by omega) _).trans m2, (hw.cell (by rw [add_block]; omega)).trans e0⟩
      have HSS := Lib.hid hS
      clear hS
      unfold ReachPost at HRK
      generalize hrr : reachF s f ⟨yt, yz, yo⟩ xt = rr at *
      obtain ⟨r1, r2⟩ := rr
      simp only at HRK HBP
      go_region_held3 (fun w' => w'.cell? ⟨w.heap.size, 0, none⟩ = some (.int .i64 s) ∧ w'.cell? ⟨w.heap.size, 1, none⟩ = some (.int .i64 f) ∧ w'.cell? ⟨wr.heap.size, 0, none⟩ = some (.int .i64 yt) ∧ w'.cell? ⟨wr.heap.size, 1, none⟩ = some (.int .i64 yz) ∧ w'.cell? ⟨wr.heap.size, 2, none⟩ = some (.int .i64 yo) ∧ w'.cell? (ad0.add (k0 * 3)) = some (.int .i64 xt))
        (first | go_keep | exact HSS.out _ (by assumption))
        (first
         | (go_at_call 68
            refine (carryB (B := wn.heap.size) (W0 := wn) (HRK.out _) ?_ ?_).mono ?_
            · first | assumption | exact (Below.refl _ _).drew | exact Below.drew (by assumption)
            · first | assumption | (simp; done)
            rintro e w3 ⟨rfl, hb3, hs3⟩))
      have hbw3 := boxed_all (hbn.trans (hb3.mono (by omega)))
      have hbw4 := hbn.trans (hb3.mono (by omega))
      have hnz : w.heap.size ≤ w3.heap.size := hbw3.size
      by_cases q1 : r2 < xz - xo
      · have hr : Hid (true = r) := Lib.hid <| by rw [HR.out]; exact (HH.out (by rw [HBP.out, decide_eq_true_eq]; exact .inl q1)).symm
        have t1 : decide (r2 < xz - xo) = true := by simpa using q1
        clear HRK HRC HSS
        go_wp2_with fail
        go_ret
        exact ⟨ret_bool hr.out, hbw3⟩
      · have t1 : decide (r2 < xz - xo) = false := by simpa using q1
        by_cases q2 : xz + xo < r1
        · have hr : Hid (true = r) := Lib.hid <| by rw [HR.out]; exact (HH.out (by rw [HBP.out, decide_eq_true_eq]; exact .inr q2)).symm
          have t2 : decide (xz + xo < r1) = true := by simpa using q2
          clear HRK HRC HSS
          go_wp2_with fail
          go_ret
          exact ⟨ret_bool hr.out, hbw3⟩
        · have hbad : badP s f ⟨xt, xz, xo⟩ ⟨yt, yz, yo⟩ = false := by rw [HBP.out, decide_eq_false_iff_not]; exact fun h => h.elim q1 q2
          have t2 : decide (xz + xo < r1) = false := by simpa using q2
          have HBD := Lib.hid hbad
          clear hbad HRK HSS
          go_wp2_with fail
          go_roundw
          case rel => exact ⟨k + 1, by omega, by go_num, hbw4, by rw [HT.out, HAN.out, HBD.out]; rfl⟩
          case measure => simp [intOf]; omega
    · obtain rfl : k = l.length := by omega
      have hr : Hid (false = r) := Lib.hid <| by rw [HR.out, conB, ← HAN.out, List.take_length]
      go_wp2_with fail
      go_ret
      exact ⟨ret_bool hr.out, boxed_all hb⟩
end Go.Proofs.Ythhgcnfkdlblnaa
