/- opening a signed command: the reference's Opened whole. -/
import Derived.Test.YteikggieekhfkaaROpn
namespace Go.Proofs.Yteikggieekhfkaa
open Go.RowKit

set_option maxRecDepth 100000 in
set_option maxHeartbeats 4000000 in
theorem r_Opened_any (key least : Int) (SA : Option Addr) (l : List Int) (sc : Nat) (A : Option Addr) (b : List UInt8) (c B : Nat) (w : World) (hB : B ≤ w.heap.size) (hll : l.length ≤ 9223372036854775807) (hSn : SA = none → sc = 0) (hbc : b.length ≤ c) (hbl : b.length ≤ 9223372036854775807) (hS : IR w B SA l) (hb : BR w B A b) :
    Calls Try.prog 35 #[kyV key least (.slice SA l.length sc), .slice A b.length c] w (OpdPost (opdK key least l b) (opdB key least l b) (opdN key least l b) (opdF key least l b) w) := by
  have HF := Lib.hid (show opdF key least l b = if keysS key least l = 0 then openC key least l b else keysS key least l from rfl)
  have HBad := Lib.hid (@opd_bad key least l b)
  have HGood := Lib.hid (@opd_good key least l b)
  generalize opdF key least l b = F at *
  generalize opdK key least l b = K at *
  generalize opdB key least l b = L at *
  generalize opdN key least l b = N at *
  have HKZ := Lib.hid (keys_zero key least l)
  have HCK := Lib.hid (fun w2 (hb2 : Below w.heap.size w w2) => r_checkKeys_any key least SA l sc B w2 (Nat.le_trans hB hb2.size) hll (hS.below (hb2.mono hB)))
  have HOP := Lib.hid (fun (hl : l.length ≤ 1000) (hs : Asc l) (h0 : 0 ≤ least) (h1 : least ≤ 1000000001) w2 (hb2 : Below w.heap.size w w2) => r_opened_any key least SA l sc A b c B w2 (Nat.le_trans hB hb2.size) hl hs hSn h0 h1 hbc hbl (hS.below (hb2.mono hB)) (hb.below (hb2.mono hB)))
  have HEK := Lib.hid (show opnK key least l b = if openC key least l b = 0 then (key, seenS least l (openN key least l b)) else (0, 0, []) from rfl)
  unfold kyV at HCK HOP ⊢
  generalize keysS key least l = Q at *
  obtain ⟨w1, hw1⟩ : ∃ w1, (w.alloc (.cells (kyC key least (.slice SA l.length sc)) 58)).alloc (.cells (kyC 0 0 (.slice none 0 0)) 58) = w1 := ⟨_, rfl⟩
  have b1 : Below w.heap.size w w1 := by rw [← hw1]; exact two_new w _ _
  have z1 : w1.heap.size = w.heap.size + 2 := by rw [← hw1]; simp
  have g0 : Blk w1 w.heap.size (kyC key least (.slice SA l.length sc)) 58 := by rw [← hw1]; exact (Blk.new w _ _).alloc _
  have g1 : Blk w1 (w.heap.size + 1) (kyC 0 0 (.slice none 0 0)) 58 := by rw [← hw1]; exact Blk.snd w _ _ _
  unfold kyC at hw1
  have HW1 := Lib.hid hw1
  obtain ⟨p0, p1, p2⟩ := blk_k g0
  clear hw1 hS hb
  go_enter Try.func35, Try.ntmps35
  go_upto_region 1 with fail
  rw [HW1.out]
  go_wp2_with fail
  refine (HCK.out w1 b1).mono ?_
  rintro e w2 ⟨rfl, hb2⟩
  have g02 := g0.below hb2 g0.lt
  have g12 := g1.below hb2 g1.lt
  have B2 := b1.trans (hb2.mono b1.size)
  clear p0 p1 p2
  obtain ⟨p0, p1, p2⟩ := blk_k g02
  obtain ⟨q0, q1, q2⟩ := blk_k g12
  obtain ⟨e0, e1, e2, -, -, -⟩ := blk_f g12
  have hz2 := hb2.size
  by_cases hq : Q = 0
  · subst hq
    obtain ⟨-, r0, r1, r2, -, r4⟩ := HKZ.out.1 rfl
    have hFQ : F = openC key least l b := by rw [HF.out, if_pos rfl]
    have HO := Lib.hid (HOP.out (by omega) (pair_asc r4) r0 r1 w2 B2)
    have HALL : Hid (F = openC key least l b ∧ K = opnK key least l b ∧ L = openB key least l b ∧ N = openN key least l b) := Lib.hid (by
      by_cases e : openC key least l b = 0
      · obtain ⟨k1, k2, k3⟩ := HGood.out (hFQ.trans e)
        exact ⟨hFQ, by rw [k1, HEK.out, if_pos e], k2, k3⟩
      · obtain ⟨k1, k2, k3⟩ := HBad.out _ hFQ e
        exact ⟨hFQ, by rw [k1, HEK.out, if_neg e], by rw [k2]; unfold openB; rw [if_neg e], by rw [k3]; unfold openN; rw [if_neg e]⟩)
    unfold OpdPost kyV at HO
    generalize openN key least l b = n at *
    generalize openB key least l b = ob at *
    generalize openC key least l b = C at *
    generalize opnK key least l b = KK at *
    obtain ⟨kk, R⟩ := KK
    simp only at HO
    clear HKZ HF HGood HBad HOP r0 r1 r2 r4 HCK HEK hFQ
    go_wp2_with fail
    refine HO.out.mono ?_
    rintro e w3 ⟨A4, c4, v3, rfl, hr4, hlc4, hn4, ho3, hb3, hf4⟩
    have g13 := g12.below hb3 g12.lt
    have B3 := B2.trans (hb3.mono B2.size)
    obtain ⟨q0, q1, q2⟩ := blk_k g13
    obtain ⟨e0, e1, e2, -, -, -⟩ := blk_f g13
    have HR4 := Lib.hid hr4
    have HO4 := Lib.hid ho3
    have HN4 := Lib.hid hn4
    have HF4 := Lib.hid hf4
    have hgl := g12.lt
    clear p0 p1 p2 hr4 ho3 hn4 hf4 HO
    go_wp2_with fail
    refine bodyPost_ret (v := .tuple #[.agg #[.int .i64 kk, .int .i64 R.1, .slice A4 R.2.length c4], v3, .int .i64 n, .int .i64 C]) (by simp [results, Try.results35, go_sem, q0, q1, q2]) rfl ?_
    rw [HALL.out.1, HALL.out.2.1, HALL.out.2.2.1, HALL.out.2.2.2]
    have hne : ∀ ad, A4 = some ad → ad.block ≠ w.heap.size + 1 := fun ad e => by have := HF4.out ad e; omega
    have ho5 := HO4.out.lower (show w1.heap.size ≤ w2.heap.size from hz2)
    exact ⟨A4, c4, v3, rfl, (((HR4.out.othr hne).othr hne).othr hne).lift (by simp), hlc4, HN4.out, (((ho5.aside (by omega)).aside (by omega)).aside (by omega)).lower (by omega), ((B3.setCell (Nat.le_succ _) _).setCell (Nat.le_succ _) _).setCell (Nat.le_succ _) _, fun ad e => by have := HF4.out ad e; omega⟩
  · have hFQ : F = Q := by rw [HF.out, if_neg hq]
    have HKK := Lib.hid (HBad.out _ hFQ hq)
    have HFQ := Lib.hid hFQ
    have dq : (Q != 0) = true := by simpa using hq
    clear hFQ hq HF HBad HGood
    go_wp2_with fail
    refine bodyPost_ret (v := .tuple #[.agg #[.int .i64 0, .int .i64 0, .slice none 0 0], .slice none 0 0, .int .i64 0, .int .i64 Q]) (by simp [results, Try.results35, go_sem, q0, q1, q2]) rfl ?_
    rw [HFQ.out, HKK.out.1, HKK.out.2.1, HKK.out.2.2]
    exact OpdPost.zero B2
end Go.Proofs.Yteikggieekhfkaa
