/- what bytes say, by the program. -/
import Derived.Test.YthcijelebjgfkaaPgEncP
import Derived.StillTailTactics
namespace Go.Proofs.Ythcijelebjgfkaa
open Go.RowKit

theorem BR.at1 {w : World} {B : Nat} {ad : Addr} {l : List UInt8} (h : BR w B (some ad) l) (k : Nat) (h0 : k ≠ 0) (hk : k < l.length) : w.cell? ⟨ad.block, ad.off + k, none⟩ = some (.int .u8 ((l.getD k 0).toNat : Int)) := by
  obtain ⟨ad', e, _, hc⟩ := h.get k hk
  obtain rfl : ad = ad' := by injection e
  have e2 : ad.add k = ⟨ad.block, ad.off + k, none⟩ := by simp [Addr.add, h0]
  rw [← e2, hc]
  simp [List.getD, hk]
theorem BR.sub {w : World} {B : Nat} {ad : Addr} {l : List UInt8} (h : BR w B (some ad) l) (k n : Nat) (h0 : k ≠ 0) (hk : k < l.length) : BR w B (some ⟨ad.block, ad.off + k, none⟩) ((l.drop k).take n) := by
  obtain ⟨ad', e, hB⟩ := h.tail k hk
  obtain rfl : ad = ad' := by injection e
  have e2 : ad.add k = ⟨ad.block, ad.off + k, none⟩ := by simp [Addr.add, h0]
  rw [← e2]
  exact hB.front n
/-- block P holds six cells of a page -/
def BoxP (w : World) (P : Nat) (v0 v1 v2 v3 v4 v5 : Value) : Prop := w.heap[P]? = some (.cells #[v0, v1, v2, v3, v4, v5] 40 (0, 0))
theorem BoxP.new (w : World) (v0 v1 v2 v3 v4 v5 : Value) : BoxP (w.alloc (.cells #[v0, v1, v2, v3, v4, v5] 40)) w.heap.size v0 v1 v2 v3 v4 v5 := heap_new w _
theorem BoxP.lt {w : World} {P : Nat} {v0 v1 v2 v3 v4 v5 : Value} (h : BoxP w P v0 v1 v2 v3 v4 v5) : P < w.heap.size := (Array.getElem?_eq_some_iff.1 h).1
theorem BoxP.cells {w : World} {P : Nat} {v0 v1 v2 v3 v4 v5 : Value} (h : BoxP w P v0 v1 v2 v3 v4 v5) : w.cell? ⟨P, 0, none⟩ = some v0 ∧ w.cell? ⟨P, 1, none⟩ = some v1 ∧ w.cell? ⟨P, 2, none⟩ = some v2 ∧ w.cell? ⟨P, 3, none⟩ = some v3 ∧ w.cell? ⟨P, 4, none⟩ = some v4 ∧ w.cell? ⟨P, 5, none⟩ = some v5 := by
  unfold BoxP at h
  exact ⟨by simp [World.cell?, h], by simp [World.cell?, h], by simp [World.cell?, h], by simp [World.cell?, h], by simp [World.cell?, h], by simp [World.cell?, h]⟩
theorem BoxP.free {w : World} {P : Nat} {v0 v1 v2 v3 v4 v5 : Value} (h : BoxP w P v0 v1 v2 v3 v4 v5) (k : Nat) : w.frozen? ⟨P, k, none⟩ = false := by
  unfold BoxP at h
  simp [World.frozen?, h]
theorem BoxP.below {w w' : World} {P B : Nat} {v0 v1 v2 v3 v4 v5 : Value} (h : BoxP w P v0 v1 v2 v3 v4 v5) (hb : Below B w w') (hp : P < B) : BoxP w' P v0 v1 v2 v3 v4 v5 := (hb.block P hp).trans h
/-- six stores behind a bound leave what lies below it -/
theorem six_set {B : Nat} {a w : World} (h : Below B a w) {P : Nat} (hP : B ≤ P) (u0 u1 u2 u3 u4 u5 : Value) :
    Below B a ((((((w.setCell ⟨P, 0, none⟩ u0).setCell ⟨P, 1, none⟩ u1).setCell ⟨P, 2, none⟩ u2).setCell ⟨P, 3, none⟩ u3).setCell ⟨P, 4, none⟩ u4).setCell ⟨P, 5, none⟩ u5) :=
  (((((h.setCell hP _).setCell hP _).setCell hP _).setCell hP _).setCell hP _).setCell hP _
/-- what is read of bytes: nothing if they are too few -/
def gxP (l : List UInt8) : Pg := if 12 + gName l + gMany l ≤ l.length then guessP l else Pg.zero
def GuessPost (l : List UInt8) (B : Nat) (w : World) (e : Ending) (w' : World) : Prop :=
  ∃ A c, e = .returned (pgV (gxP l) A c) ∧ BR w' B A (gxP l).bytes ∧ (A = none → c = 0) ∧ Below w.heap.size w w'
theorem gName_lt (l : List UInt8) : gName l ≤ 255 := by unfold gName; have := (l.getD 5 0).toNat_lt; omega
theorem gMany_lt (l : List UInt8) : gMany l ≤ 65535 := by
  unfold gMany
  have h1 := bigN_lt ((l.drop 8).take 2)
  have h2 : ((l.drop 8).take 2).length ≤ 2 := List.length_take_le _ _
  have h3 : 256 ^ ((l.drop 8).take 2).length ≤ 256 ^ 2 := Nat.pow_le_pow_right (by omega) h2
  omega
theorem byte_is (x : UInt8) (k : Nat) (hk : k < 256) (u : Nat) (hu : u = x.toNat) : ((u : Int) == (k : Int)) = (x == UInt8.ofNat k) := by
  subst hu
  rw [Bool.eq_iff_iff, beq_iff_eq, beq_iff_eq]
  constructor
  · intro h
    apply UInt8.toNat_inj.1
    rw [UInt8.toNat_ofNat']
    omega
  · intro h
    rw [h, UInt8.toNat_ofNat']
    omega
theorem BR.cut {w : World} {B : Nat} {ad : Addr} {l : List UInt8} (h : BR w B (some ad) l) (K n c : Nat) (hc : l.length ≤ c) (_hn : K + n ≤ l.length) : BR w B (if c = K then some ad else some (ad.add K)) ((l.drop K).take n) := by
  by_cases e : K < l.length
  · rw [if_neg (by omega)]
    obtain ⟨ad', e, hB⟩ := h.tail K e
    obtain rfl : ad = ad' := by injection e
    exact hB.front n
  · exact .inl (by simp; omega)
set_option maxRecDepth 100000 in
set_option maxHeartbeats 4000000 in
theorem guess_any (ad : Addr) (c : Nat) (l : List UInt8) (w : World) (hl : 64 ≤ l.length) (hl2 : l.length ≤ 1024) (hc : l.length ≤ c) (hcm : c ≤ 9223372036854775807) (B : Nat) (hBw : B ≤ w.heap.size) (h : BR w B (some ad) l) :
    Calls Try.prog 58 #[.slice (some ad) l.length c] w (GuessPost l B w) := by
  have hnl := gName_lt l
  have hmn := gMany_lt l
  have hc8 : c ≠ 8 := by omega
  obtain ⟨w0, hw0⟩ : ∃ w0, w.alloc (.cells #[.int .i64 0, .bool false, .string ⟨#[]⟩, .int .i64 0, .bool false, .slice none 0 0] 40) = w0 := ⟨_, rfl⟩
  have b0 : Below w.heap.size w w0 := by rw [← hw0]; exact (Below.refl _ _).alloc (Nat.le_refl _) _
  have h0 := h.below (b0.mono hBw)
  have c5 : w0.cell? ⟨ad.block, ad.off + 5, none⟩ = some (.int .u8 (gName l : Int)) := h0.at1 5 (by omega) (by omega)
  have HN := Lib.hid (fun w1 (hb : BR w1 B (some ad) l) => number_any (some ⟨ad.block, ad.off + 8, none⟩) (c - 8) ((l.drop 8).take 2) B w1 (by simp; omega) (hb.sub 8 2 (by omega) (by omega)))
  have hl82 : ((l.drop 8).take 2).length = 2 := by simp; omega
  rw [hl82] at HN
  have HGM : Hid (bigN ((l.drop 8).take 2) = gMany l) := rfl
  rw [HGM.out] at HN
  have HB := Lib.hid h0
  have g0 : BoxP w0 w.heap.size (.int .i64 0) (.bool false) (.string ⟨#[]⟩) (.int .i64 0) (.bool false) (.slice none 0 0) := by rw [← hw0]; exact BoxP.new _ _ _ _ _ _ _
  have HLE := Lib.hid (show gxP l = if 12 + gName l + gMany l ≤ l.length then guessP l else Pg.zero from rfl)
  clear hl82 h0
  have HW0 := Lib.hid hw0
  by_cases hle : 12 + gName l + gMany l ≤ l.length
  · have HG : Hid (gxP l = guessP l) := Lib.hid (by rw [HLE.out, if_pos hle])
    have HLN : Hid (((l.drop 12).take (gName l)).length = gName l) := Lib.hid (by simp; omega)
    have HLM : Hid (((l.drop (12 + gName l)).take (gMany l)).length = gMany l) := Lib.hid (by simp; omega)
    have HPX : Hid (guessP l = ⟨(bigN (l.take 4) : Nat), l.getD 4 0 == 2, sb ((l.drop 12).take (gName l)), (bigN ((l.drop 6).take 2) : Nat), l.getD 10 0 == 1, (l.drop (12 + gName l)).take (gMany l)⟩) := rfl
    generalize guessP l = X at *
    generalize gName l = NL at *
    generalize gMany l = MN at *
    obtain ⟨K, hK⟩ : ∃ K, K = 12 + NL := ⟨_, rfl⟩
    have hKz : (12 : Int) + (NL : Int) = (K : Int) := by omega
    have hKE : (K : Int) + (MN : Int) ≤ (l.length : Int) := by omega
    have hnot : decide ((l.length : Int) < 12 + (NL : Int) + (MN : Int)) = false := decide_eq_false (by omega)
    have HKZ := Lib.hid hKz
    have HK := Lib.hid hK
    clear hK hKz
    have hc12 : c ≠ 12 := by omega
    have hc6 : c ≠ 6 := by omega
    have hK12 : 12 ≤ K := by have := HK.out; omega
    have hKb : K ≤ 1024 := by have := HK.out; omega
    have hKs : K - 12 = NL := by have := HK.out; omega
    go_enter Try.func58, Try.ntmps58
    go_upto_region 1 with fail
    clear hw0
    go_wp2_with (first | (go_at_call 64; refine (HN.out _ HB.out).mono ?_; rintro e w' ⟨rfl, rfl⟩; obtain ⟨q0, q1, q2, q3, q4, q5⟩ := g0.cells; have f0 := g0.free 0; have f1 := g0.free 1; have f2 := g0.free 2; have f3 := g0.free 3; have f4 := g0.free 4; have f5 := g0.free 5) | fail)
    rw [HKZ.out]
    refine wp_region_still_tail 23 (by kernel_rfl) (by kernel_rfl) ?_
    simp only [List.take_succ_cons, List.take_zero, List.drop_succ_cons, List.drop_zero]
    generalize hwd : ({ w0 with drawn := w0.drawn + 1 } : World) = wd
    have hbd : Below w.heap.size w wd := by rw [← hwd]; exact b0.drew
    have gd : BoxP wd w.heap.size (.int .i64 0) (.bool false) (.string ⟨#[]⟩) (.int .i64 0) (.bool false) (.slice none 0 0) := by rw [← hwd]; exact g0
    have hB := h.below (hbd.mono hBw)
    have k4 := hB.at1 4 (by omega) (by omega)
    have k10 := hB.at1 10 (by omega) (by omega)
    obtain ⟨u4, hu4⟩ : ∃ u : Nat, u = (l.getD 4 0).toNat := ⟨_, rfl⟩
    obtain ⟨u10, hu10⟩ : ∃ u : Nat, u = (l.getD 10 0).toNat := ⟨_, rfl⟩
    rw [← hu4] at k4
    rw [← hu10] at k10
    have HU4 := Lib.hid (byte_is _ 2 (by omega) u4 hu4)
    have HU10 := Lib.hid (byte_is _ 1 (by omega) u10 hu10)
    have hcut := hB.cut K MN c hc (by have := HK.out; omega)
    have HCUT := Lib.hid hcut
    have hsz : ((K : Int) + (MN : Int)).toNat - K = MN := by omega
    clear hu4 hu10 hcut
    have n1 := number_any (some ad) c (l.take 4) B wd (by simp; omega) (hB.front 4)
    have n2 := number_any (some ⟨ad.block, ad.off + 6, none⟩) (c - 6) ((l.drop 6).take 2) B wd (by simp; omega) (hB.sub 6 2 (by omega) (by omega))
    rw [show (l.take 4).length = 4 by simp; omega] at n1
    rw [show ((l.drop 6).take 2).length = 2 by simp; omega] at n2
    have cv := conv_bytes (some ⟨ad.block, ad.off + 12, none⟩) (c - 12) ((l.drop 12).take NL) B wd (hB.sub 12 NL (by omega) (by omega))
    rw [HLN.out] at cv
    have N1 := Lib.hid n1
    have N2 := Lib.hid n2
    clear hwd n1 n2 g0 q0 q1 q2 q3 q4 q5 f0 f1 f2 f3 f4 f5 hle
    have i1 : (4 : Int) ≤ (c : Int) := by omega
    have i2 : (8 : Int) ≤ (c : Int) := by omega
    have i3 : (K : Int) ≤ (c : Int) := by omega
    have i4 : (K : Int) + (MN : Int) ≤ (c : Int) := by omega
    have i5 : (12 : Int) ≤ (K : Int) := by omega
    have i6 : (4 : Int) < (l.length : Int) := by omega
    have i7 : (10 : Int) < (l.length : Int) := by omega
    have i8 : (K : Int) ≤ (K : Int) + (MN : Int) := by omega
    obtain ⟨q0, q1, q2, q3, q4, q5⟩ := gd.cells
    have f0 := gd.free 0
    have f1 := gd.free 1
    have f2 := gd.free 2
    have f3 := gd.free 3
    have f4 := gd.free 4
    have f5 := gd.free 5
    repeat still_step
    still_call ((N1.out).mono fun e w' ⟨h1, h2⟩ => ⟨h1, h2.symm⟩)
    repeat still_step
    still_call ((N2.out).mono fun e w' ⟨h1, h2⟩ => ⟨h1, h2.symm⟩)
    repeat still_step
    refine wpStill_nil ?_
    have HNO : Hid ((if c = K then some ad else some (ad.add K)) = none → c - K = 0) := Lib.hid (fun e => by split at e <;> cases e)
    generalize (if c = K then some ad else some (ad.add K)) = A5 at HCUT HNO ⊢
    go_wp2_with fail
    refine bodyPost_ret (v := .agg #[.int .i64 (bigN (l.take 4) : Nat), .bool ((u4 : Int) == 2), .string (sb ((l.drop 12).take NL)), .int .i64 (bigN ((l.drop 6).take 2) : Nat), .bool ((u10 : Int) == 1), .slice A5 MN (c - K)]) (by simp [results, Try.results58, go_sem, q0, q1, q2, q3, q4, q5]) rfl ?_
    have hPX := HPX.out
    have e4 : ((u4 : Int) == 2) = (l.getD 4 0 == 2) := HU4.out
    have e10 : ((u10 : Int) == 1) = (l.getD 10 0 == 1) := HU10.out
    have hl3 := HLM.out
    rw [← HK.out] at hPX hl3
    refine ⟨A5, c - K, ?_, ?_, HNO.out, six_set hbd (Nat.le_refl _) _ _ _ _ _ _⟩
    · rw [HG.out, hPX]
      unfold pgV
      dsimp only
      rw [hl3, e4, e10]
    · rw [HG.out, hPX]
      exact HCUT.out.below ((six_set (Below.refl w.heap.size wd) (Nat.le_refl _) _ _ _ _ _ _).mono hBw)
  · have HG : Hid (gxP l = Pg.zero) := Lib.hid (by rw [HLE.out, if_neg hle])
    generalize gName l = NL at *
    generalize gMany l = MN at *
    have hnot : decide ((l.length : Int) < 12 + (NL : Int) + (MN : Int)) = true := decide_eq_true (by omega)
    clear hle
    go_enter Try.func58, Try.ntmps58
    go_upto_region 1 with fail
    clear hw0
    go_wp2_with (first | (go_at_call 64; refine (HN.out _ HB.out).mono ?_; rintro e w' ⟨rfl, rfl⟩; obtain ⟨q0, q1, q2, q3, q4, q5⟩ := g0.cells; have f0 := g0.free 0; have f1 := g0.free 1; have f2 := g0.free 2; have f3 := g0.free 3; have f4 := g0.free 4; have f5 := g0.free 5) | fail)
    refine bodyPost_ret (v := .agg #[.int .i64 0, .bool false, .string ⟨#[]⟩, .int .i64 0, .bool false, .slice none 0 0]) (by simp [results, Try.results58, go_sem, q0, q1, q2, q3, q4, q5]) rfl ?_
    exact ⟨none, 0, by rw [HG.out]; rfl, .inl (by rw [HG.out]; rfl), fun _ => rfl, six_set b0 (Nat.le_refl _) _ _ _ _ _ _⟩
end Go.Proofs.Ythcijelebjgfkaa
