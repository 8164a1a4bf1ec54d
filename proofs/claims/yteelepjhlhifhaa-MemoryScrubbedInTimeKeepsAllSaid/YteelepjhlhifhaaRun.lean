/- the walk of the scrubber's run. -/
import Derived.Test.YteelepjhlhifhaaFlipS
namespace Go.Proofs.Yteelepjhlhifhaa
open Go.RowKit
attribute [local go_sem] setCell_draws alloc_draws

/-- what run leaves -/
def RunAt (P g n cap : Nat) (s : St) (w w' : World) : Prop :=
  ∃ dv, HeldS w' P (.slice (some ⟨g, 0, none⟩) n cap) (.int .i64 (s.next : Int)) dv ∧ RowAt w' g cap (ints s.C) ∧ OwnS w' (P + 1) dv s.done ∧ Kept P g w w'
theorem round_cells {w0 w : World} {X : Nat} {e m : Value} (h : w.heap[X]? = w0.heap[X]?) (h0 : w0.heap[X]? = some (.cells #[e, m] 68 (0, 0))) : w.cell? ⟨X, 0, none⟩ = some e ∧ w.cell? ⟨X, 1, none⟩ = some m := by
  rw [h0] at h
  exact ⟨by simp [World.cell?, h], by simp [World.cell?, h]⟩
set_option maxRecDepth 100000 in
set_option maxHeartbeats 2000000 in
theorem run_any (P g n cap every many u : Nat) (s : St) (w : World) (Af : Option Addr) (cf : Nat) (f : List Flp) (B : Nat) (hB : B ≤ g) (hgP : g < P) (hn : n ≤ 2000) (hf2 : f.length ≤ 2000) (hcf : f.length ≤ cf) (hcf2 : cf ≤ maxLen)
    (he : 1 ≤ every ∧ every ≤ 1000000000000) (hm : 1 ≤ many ∧ many ≤ 5000) (hu : u ≤ 1000000000000) (hwork : u / every * many ≤ 1000000) (hd : s.done.length ≤ 1000000)
    (hs : s.ok n) (hok : ∀ x ∈ f, x.ok n) (hFR : FR w B Af f) (hat : RunAt P g n cap s w w) :
    Calls Try.prog 78 #[.pointer (some ⟨P, 0, none⟩), .agg #[.int .i64 (every : Int), .int .i64 (many : Int)], .slice Af f.length cf, .int .i64 (u : Int)] w fun e w' => e = .returned (.tuple #[]) ∧ RunAt P g n cap (runEnd every many u s f) w w' := by
  obtain ⟨dv, hS, hR, hO, -⟩ := hat
  have hPl := hS.lt
  have hgl := hR.lt
  obtain ⟨wb, hwb⟩ : ∃ wb, w.alloc (.cells #[.int .i64 (every : Int), .int .i64 (many : Int)] 68) = wb := ⟨_, rfl⟩
  have hbb : Below w.heap.size w wb := by rw [← hwb]; exact box_below' _ _
  have zb : wb.heap.size = w.heap.size + 1 := by rw [← hwb]; simp
  have hx0 : wb.heap[w.heap.size]? = some (.cells #[.int .i64 (every : Int), .int .i64 (many : Int)] 68 (0, 0)) := by rw [← hwb]; exact heap_alloc_new w _
  have hatb : ScrubAt P g n cap w.heap.size s wb wb := ⟨dv, hS.below hbb hPl, hR.below hbb hgl, hO.same fun j _ hj => hbb.block j hj, Kept.refl _ _ _, fun q => by have := (World.ownsRow.lt hO _ q).2; omega, rfl⟩
  have hFb : FR wb B Af f := hFR.below (hbb.mono (by omega))
  have HRD := Lib.hid (fun j => run_done every many s f j)
  have HRO := Lib.hid (fun j => run_ok (every := every) (many := many) hs hok j)
  have HEND := Lib.hid (show runEnd every many u s f = ⟨(flipU (u : Int) (runR every many s f (u / every)).1.C (runR every many s f (u / every)).2).1, (runR every many s f (u / every)).1.next, (runR every many s f (u / every)).1.done⟩ from rfl)
  have HKW := Lib.hid (Kept.of (g := g) (hbb.mono (show P ≤ w.heap.size by omega)))
  have hHWB := Lib.hid hwb
  clear hwb hS hR hO hok hFR
  go_enter Try.func78, Try.ntmps78
  go_wp2_with fail
  try rw [hHWB.out]
  clear hHWB
  go_loopw [2, 8] (fun v i wr => ∃ (j : Nat) (A1 : Option Addr) (k1 : Nat), j ≤ u / every ∧ i = .int .i64 ((every * (j + 1) : Nat) : Int) ∧ v = .slice A1 (runR every many s f j).2.length k1 ∧ (runR every many s f j).2.length ≤ 2000 ∧ (runR every many s f j).2.length ≤ k1 ∧ k1 ≤ maxLen ∧ FR wb B A1 (runR every many s f j).2 ∧ ScrubAt P g n cap w.heap.size (runR every many s f j).1 wb wr) (fun _ i _ => u + every + 1 - (intOf i).toNat)
  case atStart => exact ⟨0, Af, cf, Nat.zero_le _, by simp, rfl, hf2, hcf, hcf2, hFb, hatb⟩
  case round =>
    obtain ⟨j, A1, k1, hj, rfl, rfl, hl1, hk1, hkm, hF1, hat1⟩ := hrel
    obtain ⟨hok1, hok2⟩ := HRO.out j
    have hdn := HRD.out j
    have HS := Lib.hid (show runR every many s f (j + 1) = (scrubT (every * (j + 1)) many ⟨(flipU ((every * (j + 1) : Nat) : Int) (runR every many s f j).1.C (runR every many s f j).2).1, (runR every many s f j).1.next, (runR every many s f j).1.done⟩, (flipU ((every * (j + 1) : Nat) : Int) (runR every many s f j).1.C (runR every many s f j).2).2) from rfl)
    have hmj : many * j ≤ 1000000 := by
      have h1 : many * j ≤ many * (u / every) := Nat.mul_le_mul_left _ hj
      rw [Nat.mul_comm many (u / every)] at h1
      omega
    have HJE : Hid (u / every = j → runEnd every many u s f = ⟨(flipU (u : Int) (runR every many s f j).1.C (runR every many s f j).2).1, (runR every many s f j).1.next, (runR every many s f j).1.done⟩) := Lib.hid (fun q => by rw [HEND.out, q])
    generalize hat0 : every * (j + 1) = at' at *
    have hat2 : every * (j + 1 + 1) = at' + every := by rw [Nat.mul_succ, hat0]
    have hdiv : at' ≤ u → j + 1 ≤ u / every := fun q => by
      rw [← hat0] at q
      exact (Nat.le_div_iff_mul_le (by omega)).2 (by rw [Nat.mul_comm]; exact q)
    have hdiv2 : ¬ at' ≤ u → u / every = j := fun q => by
      have h1 : u / every < j + 1 := (Nat.div_lt_iff_lt_mul (by omega)).2 (by rw [Nat.mul_comm, hat0]; omega)
      omega
    have hatl : at' ≤ u + every := by
      have h1 : every * j ≤ every * (u / every) := Nat.mul_le_mul_left _ hj
      have h2 : every * (u / every) ≤ u := Nat.mul_div_le u every
      rw [Nat.mul_succ] at hat0
      omega
    generalize runR every many s f j = q at *
    obtain ⟨⟨Cj, xj, Dj⟩, rest⟩ := q
    simp only at hl1 hk1 hF1 hat1 hok1 hok2 hdn HS HJE
    by_cases hle : at' ≤ u
    · have HFL := Lib.hid (fun wr (h : ScrubAt P g n cap w.heap.size ⟨Cj, xj, Dj⟩ wb wr) => flipS_any P g n cap w.heap.size Cj xj Dj wb wr A1 k1 rest (at' : Int) B (by omega) (by omega) hB hgP hl1 hk1 hkm hok1 hok2 hF1 h)
      have hok3 := flipU_ok (at' : Int) rest Cj hok1 hok2
      generalize hfl : flipU (at' : Int) Cj rest = r at *
      obtain ⟨C2, rest2⟩ := r
      simp only at HFL hok3 HS
      have hd2 : Dj.length + many ≤ 1000000000 := by omega
      have HSC := Lib.hid (fun wr (h : ScrubAt P g n cap w.heap.size ⟨C2, xj, Dj⟩ wb wr) => scrub_any P g n cap w.heap.size at' many ⟨C2, xj, Dj⟩ wb wr (by omega) (by omega) (by omega) hok3.1 hgP hn hd2 h)
      have HJ1 := Lib.hid (hdiv hle)
      have HAT := Lib.hid hat2
      clear hdiv hdiv2 HJE hfl hok1 hok2 hok3 hmj hdn hat0 hat2 hF1 hl1 hk1
      go_wp2_with fail
      refine (HFL.out wr hat1).mono ?_
      rintro e w1 ⟨A2, k2, rfl, hF2, hl2, hk2, hkm2, hat3⟩
      obtain ⟨r1, r2⟩ := round_cells hat3.choose_spec.2.2.2.2.2 hx0
      go_wp2_with fail
      refine (HSC.out w1 hat3).mono ?_
      rintro e w2 ⟨rfl, hat4⟩
      obtain ⟨r3, r4⟩ := round_cells hat4.choose_spec.2.2.2.2.2 hx0
      clear r1 r2
      go_wp2_with fail
      refine ⟨⟨j + 1, A2, k2, HJ1.out, by rw [HAT.out]; simp, by rw [HS.out], by rw [HS.out]; exact hl2, by rw [HS.out]; exact hk2, hkm2, by rw [HS.out]; exact hF2, by rw [HS.out]; exact hat4⟩, by simp [intOf]; omega⟩
    · have hq := hdiv2 hle
      have HE := Lib.hid (HJE.out hq)
      have HFL := Lib.hid (fun wr (h : ScrubAt P g n cap w.heap.size ⟨Cj, xj, Dj⟩ wb wr) => flipS_any P g n cap w.heap.size Cj xj Dj wb wr A1 k1 rest (u : Int) B (by omega) (by omega) hB hgP hl1 hk1 hkm hok1 hok2 hF1 h)
      clear hdiv hdiv2 HJE hok1 hok2 hmj hdn hat0 hat2 hF1 hl1 hk1 hq HS
      go_wp2_with fail
      refine (HFL.out wr hat1).mono ?_
      rintro e w1 ⟨A2, k2, rfl, hF2, hl2, hk2, hkm2, dv3, y1, y2, y3, y4, -, -⟩
      go_wp2_with fail
      refine bodyPost_end (v := .tuple #[]) (by simp [results, Try.results78, go_sem]) rfl ⟨rfl, ?_⟩
      rw [HE.out]
      exact ⟨dv3, y1, y2, y3, HKW.out.trans y4⟩
end Go.Proofs.Yteelepjhlhifhaa
