/- opening a signed command: the program's Opened whole. -/
import Derived.Test.YteikggieekhfkaaKeyMath
import Derived.Test.YteikggieekhfkaaSeen
namespace Go.Proofs.Yteikggieekhfkaa
open Go.RowKit

def opdF (key least : Int) (l : List Int) (b : List UInt8) : Int := if keysS key least l = 0 then openC key least l b else keysS key least l
def opdK (key least : Int) (l : List Int) (b : List UInt8) : Int × Int × List Int := if opdF key least l b = 0 then (key, seenS least l (openN key least l b)) else (0, 0, [])
def opdB (key least : Int) (l : List Int) (b : List UInt8) : List UInt8 := if opdF key least l b = 0 then openB key least l b else []
def opdN (key least : Int) (l : List Int) (b : List UInt8) : Int := if opdF key least l b = 0 then openN key least l b else 0
def OpdPost (K : Int × Int × List Int) (L : List UInt8) (N F : Int) (w : World) (e : Ending) (w' : World) : Prop :=
  ∃ A c v, e = .returned (.tuple #[kyV K.1 K.2.1 (.slice A K.2.2.length c), v, .int .i64 N, .int .i64 F]) ∧ IR w' w'.heap.size A K.2.2 ∧ K.2.2.length ≤ c ∧ (A = none → c = 0) ∧ Own w' w.heap.size v L ∧ Below w.heap.size w w' ∧ ∀ ad, A = some ad → w.heap.size ≤ ad.block
theorem OpdPost.zero {F : Int} {w w2 : World} {u0 u1 u2 : Value} (hb : Below w.heap.size w w2) :
    OpdPost (0, 0, []) [] 0 F w (.returned (.tuple #[.agg #[.int .i64 0, .int .i64 0, .slice none 0 0], .slice none 0 0, .int .i64 0, .int .i64 F])) (((w2.setCell ⟨w.heap.size + 1, 0, none⟩ u0).setCell ⟨w.heap.size + 1, 1, none⟩ u1).setCell ⟨w.heap.size + 1, 2, none⟩ u2) :=
  ⟨none, 0, .slice none 0 0, rfl, .inl rfl, Nat.le_refl _, fun _ => rfl, Own.nil _ _, ((hb.setCell (Nat.le_succ _) _).setCell (Nat.le_succ _) _).setCell (Nat.le_succ _) _, fun ad e => by cases e⟩
theorem Own.aside {w : World} {base g k : Nat} {v u : Value} {l : List UInt8} (h : Own w base v l) (hlt : g < base) : Own (w.setCell ⟨g, k, none⟩ u) base v l :=
  World.ownsRow.kept h (setCell_grownI w g k u) (.inr (fun e => by have := (h.lt g e).1; omega))
theorem OpdPost.full {key n : Int} {R : Int × List Int} {L : List UInt8} {w w1 w2 : World} {A : Option Addr} {c : Nat} {v u0 u1 u2 : Value} (hz : w1.heap.size = w.heap.size + 2) (hr : IR w2 w2.heap.size A R.2) (hA : ∀ ad, A = some ad → w.heap.size + 1 < ad.block) (hlc : R.2.length ≤ c) (hn : A = none → c = 0) (ho : Own w2 w1.heap.size v L) (hb : Below w.heap.size w w2) :
    OpdPost (key, R) L n 0 w (.returned (.tuple #[.agg #[.int .i64 key, .int .i64 R.1, .slice A R.2.length c], v, .int .i64 n, .int .i64 0])) (((w2.setCell ⟨w.heap.size + 1, 0, none⟩ u0).setCell ⟨w.heap.size + 1, 1, none⟩ u1).setCell ⟨w.heap.size + 1, 2, none⟩ u2) := by
  have hne : ∀ ad, A = some ad → ad.block ≠ w.heap.size + 1 := fun ad e => by have := hA ad e; omega
  exact ⟨A, c, v, rfl, (((hr.othr hne).othr hne).othr hne).lift (by simp), hlc, hn, (((ho.aside (by omega)).aside (by omega)).aside (by omega)).lower (by omega), ((hb.setCell (Nat.le_succ _) _).setCell (Nat.le_succ _) _).setCell (Nat.le_succ _) _, fun ad e => by have := hA ad e; omega⟩
theorem opd_bad {key least : Int} {l : List Int} {b : List UInt8} (F : Int) (h : opdF key least l b = F) (hF : F ≠ 0) : opdK key least l b = (0, 0, []) ∧ opdB key least l b = [] ∧ opdN key least l b = 0 := by
  unfold opdK opdB opdN
  rw [h, if_neg hF, if_neg hF, if_neg hF]
  exact ⟨rfl, rfl, rfl⟩
theorem opd_good {key least : Int} {l : List Int} {b : List UInt8} (h : opdF key least l b = 0) : opdK key least l b = (key, seenS least l (openN key least l b)) ∧ opdB key least l b = openB key least l b ∧ opdN key least l b = openN key least l b := by
  unfold opdK opdB opdN
  rw [if_pos h, if_pos h, if_pos h]
  exact ⟨rfl, rfl, rfl⟩
set_option maxRecDepth 100000 in
set_option maxHeartbeats 4000000 in
theorem p_Opened_any (key least : Int) (SA : Option Addr) (l : List Int) (sc : Nat) (A : Option Addr) (b : List UInt8) (c B : Nat) (w : World) (hB : B ≤ w.heap.size) (hll : l.length ≤ 9223372036854775807) (hSn : SA = none → sc = 0) (hbc : b.length ≤ c) (hbl : b.length ≤ 9223372036854775807) (hS : IR w B SA l) (hb : BR w B A b) :
    Calls Try.prog 34 #[kyV key least (.slice SA l.length sc), .slice A b.length c] w (OpdPost (opdK key least l b) (opdB key least l b) (opdN key least l b) (opdF key least l b) w) := by
  have HF := Lib.hid (show opdF key least l b = if keysS key least l = 0 then openC key least l b else keysS key least l from rfl)
  have HBad := Lib.hid (@opd_bad key least l b)
  have HGood := Lib.hid (@opd_good key least l b)
  generalize opdF key least l b = F at *
  generalize opdK key least l b = K at *
  generalize opdB key least l b = L at *
  generalize opdN key least l b = N at *
  have HKZ := Lib.hid (keys_zero key least l)
  have HCK := Lib.hid (fun w2 (hb2 : Below w.heap.size w w2) => p_checkKeys_any key least SA l sc B w2 (Nat.le_trans hB hb2.size) hll (hS.below (hb2.mono hB)))
  have HOP := Lib.hid (fun (hl : l.length ≤ 1000000) (h0 : 0 ≤ least) (h1 : least ≤ 1000000001) w2 (hb2 : Below w.heap.size w w2) => p_open_any key least SA l sc A b c B w2 (Nat.le_trans hB hb2.size) hl h0 h1 hbc hbl (hS.below (hb2.mono hB)) (hb.below (hb2.mono hB)))
  have HSE := Lib.hid (fun (n : Int) (hl : l.length ≤ 1000) (hs : Asc l) (h0 : 0 ≤ least) (h1 : least ≤ 4000000000) w2 (hb2 : Below w.heap.size w w2) => p_seen_any key least n SA l sc B w2 (Nat.le_trans hB hb2.size) hl hs hSn h0 h1 (hS.below (hb2.mono hB)))
  unfold kyV at HCK HOP HSE ⊢
  generalize keysS key least l = Q at *
  obtain ⟨w1, hw1⟩ : ∃ w1, (w.alloc (.cells (kyC key least (.slice SA l.length sc)) 58)).alloc (.cells (kyC 0 0 (.slice none 0 0)) 58) = w1 := ⟨_, rfl⟩
  have b1 : Below w.heap.size w w1 := by rw [← hw1]; exact two_new w _ _
  have z1 : w1.heap.size = w.heap.size + 2 := by rw [← hw1]; simp
  have g0 : Blk w1 w.heap.size (kyC key least (.slice SA l.length sc)) 58 := by rw [← hw1]; exact (Blk.new w _ _).alloc _
  have g1 : Blk w1 (w.heap.size + 1) (kyC 0 0 (.slice none 0 0)) 58 := by rw [← hw1]; exact Blk.snd w _ _ _
  unfold kyC at hw1
  have HW1 := Lib.hid hw1
  obtain ⟨p0, p1, p2⟩ := blk_k g0
  clear hw1 hS hb
  go_enter Try.func34, Try.ntmps34
  go_upto_region 1 with fail
  rw [HW1.out]
  go_wp2_with fail
  refine (HCK.out w1 b1).mono ?_
  rintro e w2 ⟨rfl, hb2⟩
  have g02 := g0.below hb2 g0.lt
  have g12 := g1.below hb2 g1.lt
  have B2 := b1.trans (hb2.mono b1.size)
  clear p0 p1 p2
  obtain ⟨p0, p1, p2⟩ := blk_k g02
  obtain ⟨q0, q1, q2⟩ := blk_k g12
  obtain ⟨e0, e1, e2, -, -, -⟩ := blk_f g12
  have hz2 := hb2.size
  by_cases hq : Q = 0
  · subst hq
    obtain ⟨-, r0, r1, r2, -, r4⟩ := HKZ.out.1 rfl
    have hFQ : F = openC key least l b := by rw [HF.out, if_pos rfl]
    have HO := Lib.hid (HOP.out (by omega) r0 r1 w2 B2)
    have HS2 := Lib.hid (fun n => HSE.out n (by omega) (pair_asc r4) r0 (by omega))
    have HG := Lib.hid (fun (h : openC key least l b = 0) => HGood.out (hFQ.trans h))
    have HBd := Lib.hid (fun (h : openC key least l b ≠ 0) => HBad.out _ hFQ h)
    unfold OpenPost at HO
    generalize openN key least l b = n at *
    generalize openB key least l b = ob at *
    generalize openC key least l b = C at *
    obtain ⟨R, hR⟩ : ∃ R, seenS least l n = R := ⟨_, rfl⟩
    have HS3 := HS2.out n
    rw [hR] at HG HS3
    have HS3 := Lib.hid HS3
    clear HKZ HF HGood HBad HSE HOP HS2 r0 r1 r2 r4 hR HCK
    have HFQ := Lib.hid hFQ
    clear hFQ
    go_wp2_with fail
    refine HO.out.mono ?_
    rintro e w3 ⟨v3, rfl, ho3, hb3⟩
    have g03 := g02.below hb3 g02.lt
    have g13 := g12.below hb3 g12.lt
    have B3 := B2.trans (hb3.mono B2.size)
    have hz3 := hb3.size
    clear p0 p1 p2 q0 q1 q2 e0 e1 e2
    obtain ⟨p0, p1, p2⟩ := blk_k g03
    by_cases hC : C = 0
    · subst hC
      have HKK := Lib.hid (HG.out rfl)
      clear HG HBd
      go_wp2_with fail
      refine (HS3.out w3 B3).mono ?_
      rintro e w4 ⟨A4, c4, rfl, hr4, hlc4, hn4, hf4, hb4⟩
      have g14 := g13.below hb4 g13.lt
      have hz4 := hb4.size
      obtain ⟨q0, q1, q2⟩ := blk_k g14
      obtain ⟨e0, e1, e2, -, -, -⟩ := blk_f g14
      have ho4 := (ho3.lower hz2).after hb4 (Nat.le_refl _)
      have B4 := B3.trans (hb4.mono B3.size)
      have HR4 := Lib.hid hr4
      have HO4 := Lib.hid ho4
      have HF4 := Lib.hid hf4
      have HN4 := Lib.hid hn4
      clear hr4 ho4 hf4 hn4 ho3 HS3 HO
      unfold kyV
      go_wp2_with fail
      refine bodyPost_ret (v := .tuple #[.agg #[.int .i64 key, .int .i64 R.1, .slice A4 R.2.length c4], v3, .int .i64 n, .int .i64 0]) (by simp [results, Try.results34, go_sem, q0, q1, q2]) rfl ?_
      rw [HFQ.out, HKK.out.1, HKK.out.2.1, HKK.out.2.2]
      exact OpdPost.full z1 HR4.out (fun ad e => by have := HF4.out ad e; omega) hlc4 HN4.out HO4.out B4
    · have HKK := Lib.hid (HBd.out hC)
      have dq : (C != 0) = true := by simpa using hC
      obtain ⟨q0, q1, q2⟩ := blk_k g13
      obtain ⟨e0, e1, e2, -, -, -⟩ := blk_f g13
      clear hC HG HBd HS3 HO
      go_wp2_with fail
      refine bodyPost_ret (v := .tuple #[.agg #[.int .i64 0, .int .i64 0, .slice none 0 0], .slice none 0 0, .int .i64 0, .int .i64 C]) (by simp [results, Try.results34, go_sem, q0, q1, q2]) rfl ?_
      rw [HFQ.out, HKK.out.1, HKK.out.2.1, HKK.out.2.2]
      exact OpdPost.zero B3
  · have hFQ : F = Q := by rw [HF.out, if_neg hq]
    have HKK := Lib.hid (HBad.out _ hFQ hq)
    have HFQ := Lib.hid hFQ
    have dq : (Q != 0) = true := by simpa using hq
    clear hFQ hq HF HBad HGood
    go_wp2_with fail
    refine bodyPost_ret (v := .tuple #[.agg #[.int .i64 0, .int .i64 0, .slice none 0 0], .slice none 0 0, .int .i64 0, .int .i64 Q]) (by simp [results, Try.results34, go_sem, q0, q1, q2]) rfl ?_
    rw [HFQ.out, HKK.out.1, HKK.out.2.1, HKK.out.2.2]
    exact OpdPost.zero B2
end Go.Proofs.Yteikggieekhfkaa
