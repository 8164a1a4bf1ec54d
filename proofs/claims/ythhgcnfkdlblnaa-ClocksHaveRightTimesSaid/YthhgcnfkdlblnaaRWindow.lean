/- Window of the reference. -/
import Derived.Test.YthhgcnfkdlblnaaClashes
namespace Go.Proofs.Ythhgcnfkdlblnaa
open Go.RowKit

theorem windowS_bad {s f n : Int} {l : List Mk} (h : ckB s f l ≠ 0) : windowS s f l n = (0, 0, ckB s f l) := by unfold windowS; rw [if_pos h]
/-- the head of the loop of the reference's Window -/
def RWinAt (s f n : Int) (l : List Mk) (w : World) (a b i : Value) (wr : World) : Prop :=
  ∃ (k : Nat) (x y : Int), k ≤ l.length ∧ i = .int .i64 k ∧ a = .int .i64 x ∧ b = .int .i64 y ∧ Below (w.heap.size + 1) (boxed s f w) wr ∧ winL s f n (l.drop k) x y = winL s f n l lo64 hi64
set_option maxRecDepth 100000 in
set_option maxHeartbeats 2000000 in
theorem rwindow_any (s f : Int) (A : Option Addr) (c : Nat) (l : List Mk) (n : Int) (w : World) (hl : l.length ≤ 9223372036854775807) (hA : MR w w.heap.size A l) :
    Calls Try.prog 34 #[cv s f, .slice A l.length c, .int .i64 n] w (WinPost (windowS s f l n) w) := by
  have hc := fun (w' : World) (hb : Below w.heap.size w w') => rcheckBoth_any s f A c l w' hl ((hA.below hb).lift hb.size)
  by_cases h : ckB s f l = 0
  · obtain ⟨q1, q2⟩ := ckB_ok h
    obtain ⟨hs, hf, -⟩ := ckC_ok q1
    obtain ⟨hpos, h2000, hok, -⟩ := ckM_ok l q2
    clear q1 q2
    have HC := Lib.hid hc
    clear hc
    by_cases hn : n < 0 ∨ 1000000000000 < n
    · have hW : windowS s f l n = (0, 0, 1) := by unfold windowS; rw [if_neg (by simpa using h), if_pos hn]
      rw [hW]
      rw [h] at HC
      have d0 : decide (0 ≤ n ∧ n ≤ 1000000000000) = false := by simp; omega
      clear hn hs hf hok hW h
      unfold cv at *
      go_enter Try.func34, Try.ntmps34
      go_wp2_with fail
      refine (HC.out _ (boxed_below s f w)).mono ?_
      rintro e w1 ⟨rfl, hb1⟩
      have hb2 : Below w.heap.size w w1 := boxed_trans hb1
      clear hb1
      go_wp2_with (first | (go_at_call 54; refine (within_any _ _ _ _).mono ?_; rintro e w' ⟨rfl, rfl⟩) | fail)
      exact bodyPost_ret (v := .tuple #[.int .i64 0, .int .i64 0, .int .i64 1]) (by simp [results, Try.results34, go_sem]) rfl ⟨rfl, hb2⟩
    · have hW : windowS s f l n = if (winL s f n l lo64 hi64).2 < (winL s f n l lo64 hi64).1 then (0, 0, 12) else ((winL s f n l lo64 hi64).1, (winL s f n l lo64 hi64).2, 0) := by
        unfold windowS; rw [if_neg (by simpa using h), if_neg hn]
      have d0 : decide (0 ≤ n ∧ n ≤ 1000000000000) = true := by simp; omega
      have hn2 : 0 ≤ n ∧ n ≤ 1000000000000 := by omega
      rw [h] at HC
      clear hn h
      have HR := Lib.hid (fun (x : Mk) (hx : x.ok) (w' : World) => windowOf_any s f x n hs hf hx hn2 w')
      have HWW := Lib.hid hW
      have HOK := Lib.hid hok
      have hfst : ∀ h : 0 < l.length, winL s f n l (reachF s f l[0] n).1 (reachF s f l[0] n).2 = winL s f n l lo64 hi64 := by
        intro h
        obtain ⟨m, l', rfl⟩ := List.exists_cons_of_length_pos h
        exact winL_first s f n m l' (reach_bd hs hf (hok m (by simp)) hn2)
      have HFST := Lib.hid (hfst hpos)
      clear hW hs hf hok hn2 hfst
      obtain ⟨ad, rfl, had, c0, c1, c2⟩ := hA.get 0 hpos
      rw [Nat.zero_mul, addr_zero] at c0 c1 c2
      have HRC := Lib.hid (HR.out l[0] (HOK.out _ (List.getElem_mem hpos)))
      unfold cv at *
      go_enter Try.func34, Try.ntmps34
      go_wp2_with fail
      refine (HC.out _ (boxed_below s f w)).mono ?_
      rintro e w1 ⟨rfl, hb1⟩
      have hb2 : Below (w.heap.size + 1) (boxed s f w) w1 := hb1.mono (by rw [boxed_size]; omega)
      clear hb1 HC
      obtain ⟨fa, fb⟩ := boxed_cells hb2
      have hbw := boxed_all hb2
      have hz2 := hb2.size
      rw [boxed_size] at hz2
      have c0 := (hbw.cell (p := ad) had).trans c0
      have c1 := (Below.at_ hbw _ had _).trans c1
      have c2 := (Below.at_ hbw _ had _).trans c2
      go_wp2_with (first | (go_at_call 54; refine (within_any _ _ _ _).mono ?_; rintro e w' ⟨rfl, rfl⟩) | fail)
      have hS : ∀ w', Below w1.heap.size w1 w' → (w'.cell? ⟨w.heap.size, 0, none⟩ = some (.int .i64 s) ∧ w'.cell? ⟨w.heap.size, 1, none⟩ = some (.int .i64 f) ∧ w'.cell? ad = some (.int .i64 l[0].t) ∧ w'.cell? ⟨ad.block, ad.off + 1, none⟩ = some (.int .i64 l[0].z) ∧ w'.cell? ⟨ad.block, ad.off + 2, none⟩ = some (.int .i64 l[0].o)) := fun w' hw =>
        ⟨(Below.at_ hw _ (by omega) _).trans fa, (Below.at_ hw _ (by omega) _).trans fb, (hw.cell (by omega)).trans c0, (Below.at_ hw _ (by omega) _).trans c1, (Below.at_ hw _ (by omega) _).trans c2⟩
      have HSS := Lib.hid hS
      clear hS
      unfold ReachPost mv at HRC
      have HL0 : Hid (reachF s f l[0] n = reachF s f l[0] n) := Lib.hid rfl
      generalize reachF s f l[0] n = rr at *
      generalize l[0] = m at *
      obtain ⟨yt, yz, yo⟩ := m
      obtain ⟨r1, r2⟩ := rr
      simp only at c0 c1 c2 HRC HSS HFST
      go_region_held3 (fun w' => w'.cell? ⟨w.heap.size, 0, none⟩ = some (.int .i64 s) ∧ w'.cell? ⟨w.heap.size, 1, none⟩ = some (.int .i64 f) ∧ w'.cell? ad = some (.int .i64 yt) ∧ w'.cell? ⟨ad.block, ad.off + 1, none⟩ = some (.int .i64 yz) ∧ w'.cell? ⟨ad.block, ad.off + 2, none⟩ = some (.int .i64 yo))
        (first | go_keep | exact HSS.out _ (by assumption))
        (first
         | (go_at_call 70
            refine (carryB (B := w1.heap.size) (W0 := w1) (HRC.out _) ?_ ?_).mono ?_
            · first | assumption | exact (Below.refl _ _).drew | exact Below.drew (by assumption)
            · first | assumption | (simp; done)
            rintro e w3 ⟨rfl, hb3, hs3⟩))
      have hb4 : Below (w.heap.size + 1) (boxed s f w) w3 := hb2.trans (hb3.mono (by omega))
      clear hb2 HSS HRC c0 c1 c2 fa fb hbw hb3 hs3 HL0
      go_wp2_with fail
      go_loopw [10, 11, 12] (fun a b i wr => RWinAt s f n l w a b i wr) (fun _ _ i _ => l.length - (intOf i).toNat)
      case atStart => exact ⟨0, r1, r2, Nat.zero_le _, rfl, rfl, rfl, hb4, by rw [List.drop_zero]; exact HFST.out⟩
      case round =>
        obtain ⟨k, x, y, hk, rfl, rfl, rfl, hb, hwin⟩ := hrel
        have HW := Lib.hid hwin
        clear hwin hb4 HFST
        by_cases hlt : k < l.length
        · have hbw := boxed_all hb
          have hAr := hA.below hbw
          obtain ⟨ad', hadd, had, c0, c1, c2⟩ := hAr.get k hlt
          obtain rfl : ad = ad' := by injection hadd
          obtain ⟨fa, fb⟩ := boxed_cells hb
          have HD := Lib.hid (winL_one s f n l k hlt x y)
          have hz1 : w.heap.size < wr.heap.size := by have := hb.size; rw [boxed_size] at this; omega
          have HRC := Lib.hid (HR.out l[k] (HOK.out _ (List.getElem_mem hlt)))
          clear hadd
          generalize l[k] = m at *
          obtain ⟨xt, xz, xo⟩ := m
          simp only at c0 c1 c2
          unfold mv ReachPost at HRC
          simp only at HRC
          generalize hrr : reachF s f ⟨xt, xz, xo⟩ n = rr at *
          obtain ⟨r1, r2⟩ := rr
          simp only at HRC HD
          have hS : ∀ w', Below wr.heap.size wr w' → (w'.cell? ⟨w.heap.size, 0, none⟩ = some (.int .i64 s) ∧ w'.cell? ⟨w.heap.size, 1, none⟩ = some (.int .i64 f) ∧ w'.cell? (ad.add (k * 3)) = some (.int .i64 xt) ∧ w'.cell? ⟨(ad.add (k * 3)).block, (ad.add (k * 3)).off + 1, none⟩ = some (.int .i64 xz) ∧ w'.cell? ⟨(ad.add (k * 3)).block, (ad.add (k * 3)).off + 2, none⟩ = some (.int .i64 xo)) := fun w' hw =>
            ⟨(Below.at_ hw _ (by omega) _).trans fa, (Below.at_ hw _ (by omega) _).trans fb, (hw.cell (by rw [add_block]; omega)).trans c0, (Below.at_ hw _ (by rw [add_block]; omega) _).trans c1, (Below.at_ hw _ (by rw [add_block]; omega) _).trans c2⟩
          have HSS := Lib.hid hS
          clear hS
          go_wp2_with fail
          go_region_held3 (fun w' => w'.cell? ⟨w.heap.size, 0, none⟩ = some (.int .i64 s) ∧ w'.cell? ⟨w.heap.size, 1, none⟩ = some (.int .i64 f) ∧ w'.cell? (ad.add (k * 3)) = some (.int .i64 xt) ∧ w'.cell? ⟨(ad.add (k * 3)).block, (ad.add (k * 3)).off + 1, none⟩ = some (.int .i64 xz) ∧ w'.cell? ⟨(ad.add (k * 3)).block, (ad.add (k * 3)).off + 2, none⟩ = some (.int .i64 xo))
            (first | go_keep | exact HSS.out _ (by assumption))
            (first
             | (go_at_call 70
                refine (carryB (B := wr.heap.size) (W0 := wr) (HRC.out _) ?_ ?_).mono ?_
                · first | assumption | exact (Below.refl _ _).drew | exact Below.drew (by assumption)
                · first | assumption | (simp; done)
                rintro e w3 ⟨rfl, hb3, hs3⟩))
          have hb4 : Below (w.heap.size + 1) (boxed s f w) w3 := hb.trans (hb3.mono (by omega))
          clear HSS HRC c0 c1 c2 fa fb hb3 hs3 hb
          go_wp2_with fail
          go_roundw
          case rel =>
            refine ⟨k + 1, _, _, by omega, by go_num, rfl, rfl, hb4, ?_⟩
            rw [if_max, if_min]
            rw [← HD.out]
            exact HW.out
          case measure => simp [intOf]; omega
        · obtain rfl : k = l.length := by omega
          have he : winL s f n l lo64 hi64 = (x, y) := by rw [← HW.out, List.drop_length]; rfl
          have HE := Lib.hid (HWW.out)
          rw [he] at HE
          have hz : Below w.heap.size w wr := boxed_all hb
          clear HW HWW he
          by_cases hxy : y < x
          · have HF : Hid (windowS s f l n = (0, 0, 12)) := by have := HE.out; rw [if_pos hxy] at this; exact this
            go_wp2_with fail
            rw [HF.out]
            exact bodyPost_ret (v := .tuple #[.int .i64 0, .int .i64 0, .int .i64 12]) (by simp [results, Try.results34, go_sem]) rfl ⟨rfl, hz⟩
          · have HF : Hid (windowS s f l n = (x, y, 0)) := by have := HE.out; rw [if_neg hxy] at this; exact this
            go_wp2_with fail
            rw [HF.out]
            exact bodyPost_ret (v := .tuple #[.int .i64 x, .int .i64 y, .int .i64 0]) (by simp [results, Try.results34, go_sem]) rfl ⟨rfl, hz⟩
  · rw [windowS_bad h]
    generalize ckB s f l = r at *
    have hne : (r != 0) = true := by simpa using h
    have HC := Lib.hid hc
    clear hc h hA
    unfold cv at *
    go_enter Try.func34, Try.ntmps34
    go_wp2_with fail
    refine (HC.out _ (boxed_below s f w)).mono ?_
    rintro e w1 ⟨rfl, hb1⟩
    have hb2 : Below w.heap.size w w1 := boxed_trans hb1
    clear hb1
    go_wp2_with fail
    exact bodyPost_ret (v := .tuple #[.int .i64 0, .int .i64 0, .int .i64 r]) (by simp [results, Try.results34, go_sem]) rfl ⟨rfl, hb2⟩
end Go.Proofs.Ythhgcnfkdlblnaa
