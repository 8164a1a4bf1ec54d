/- the program's Spread whole. -/
import Derived.Test.YtdcnpbdkhcdinaaSpP
import Derived.Test.YtdcnpbdkhcdinaaSpU
import Derived.Test.YtdcnpbdkhcdinaaSqP
namespace Go.Proofs.Ytdcnpbdkhcdinaa
open Go.RowKit

/-- what Spread answers, in memory -/
def SprPost (b : List UInt8) (w : World) (e : Ending) (w' : World) : Prop := ∃ v, e = .returned (.tuple #[v, .int .i64 (spF b)]) ∧ OwnI w' w.heap.size v (spR b) ∧ Below w.heap.size w w'
theorem SprPost.no {b : List UInt8} {w w' : World} (h : ∀ l, ¬ GoodB l b) (F : Int) (hF : F = if 30000 < b.length then 2 else 3) (hb : Below w.heap.size w w') : SprPost b w (.returned (.tuple #[.slice none 0 0, .int .i64 F])) w' := by
  obtain ⟨h1, h2⟩ := sp_none h
  exact ⟨_, by rw [h1, hF], by rw [h2]; exact OwnI.nil _ _, hb⟩
set_option maxRecDepth 100000 in
set_option maxHeartbeats 4000000 in
theorem p_Spread_any (A : Option Addr) (b : List UInt8) (c B : Nat) (w : World) (hB : B ≤ w.heap.size) (hbl : b.length ≤ 9223372036854775807) (hbc : b.length ≤ c) (h : BR w B A b) :
    Calls Try.prog 13 #[.slice A b.length c] w (SprPost b w) := by
  by_cases h3 : 30000 < b.length
  · have i3 : (30000 : Int) < (b.length : Int) := by omega
    have HNO : Hid (∀ l, ¬ GoodB l b) := Lib.hid (fun l hl => by have := good_len hl; omega)
    go_enter Try.func13, Try.ntmps13
    go_wp2_with fail
    go_ret2
    exact SprPost.no HNO.out 2 (by rw [if_pos h3]) (Below.refl _ _)
  · have i3 : ¬ (30000 : Int) < (b.length : Int) := by omega
    have HS := Lib.hid (p_spread_any A b c B w hB (by omega) hbc h)
    have H3 := Lib.hid h3
    clear h3
    go_enter Try.func13, Try.ntmps13
    go_wp2_with fail
    refine HS.out.mono ?_
    rintro e w1 ⟨v1, ok, vs, rfl, ho1, hb1, hgood, hvl⟩
    have hz1 := hb1.size
    cases ok
    · have HNO : Hid (∀ l, ¬ GoodB l b) := Lib.hid (fun l hl => by have := (hgood l hl).1; simp at this)
      clear hgood ho1
      go_wp2_with fail
      go_ret2
      exact SprPost.no HNO.out 3 (by rw [if_neg H3.out]) hb1
    · obtain ⟨A1, c1, rfl, hr1, hlc1⟩ := ho1.form9
      have HQ := Lib.hid (p_squeezed_any A1 vs c1 w1.heap.size w1 (Nat.le_refl _) (by omega) hlc1 hr1)
      have HO1 := Lib.hid ho1
      have hb2b := h.below (hb1.mono hB)
      have HG := Lib.hid hgood
      have HGD : Hid (sqF vs = 0 → sqR vs = b → spF b = 0 ∧ spR b = vs) := Lib.hid (fun a e => sp_good ⟨a, e⟩)
      have HNG : Hid (¬ (sqF vs = 0 ∧ sqR vs = b) → ∀ l, ¬ GoodB l b) := Lib.hid (fun hn l hl => by
        have := (hgood l hl).2
        subst this
        exact hn hl)
      clear hgood ho1 hr1 h
      generalize sqF vs = F at *
      generalize sqR vs = S at *
      go_wp2_with fail
      refine HQ.out.mono ?_
      rintro e w2 ⟨v2, rfl, ho2, hb2⟩
      obtain ⟨A2, c2, rfl, hr2⟩ := ho2.form
      have B2 := hb1.trans (hb2.mono hz1)
      by_cases hF : F = 0
      · subst hF
        have HE := Lib.hid (bytesEqual_any A2 A c2 c S b w2.heap.size w2 hr2 ((hb2b.below (hb2.mono (Nat.le_trans hB hz1))).lift (Nat.le_trans hB B2.size)))
        by_cases hSb : S = b
        · rw [decide_eq_true hSb] at HE
          have HX := Lib.hid (HGD.out rfl hSb)
          have hO2 := HO1.out.after hb2 (Nat.le_refl _)
          clear hSb HNG HGD ho2
          go_wp2_with fail
          refine HE.out.mono ?_
          rintro e w' ⟨rfl, rfl⟩
          go_wp2_with fail
          go_ret2
          exact ⟨_, by rw [HX.out.1]; rfl, by rw [HX.out.2]; exact hO2, B2⟩
        · rw [decide_eq_false hSb] at HE
          have HNO := Lib.hid (HNG.out (fun h => hSb h.2))
          clear hSb HNG HGD ho2
          go_wp2_with fail
          refine HE.out.mono ?_
          rintro e w' ⟨rfl, rfl⟩
          go_wp2_with fail
          go_ret2
          exact SprPost.no HNO.out 3 (by rw [if_neg H3.out]) B2
      · have dF : (F != 0) = true := by simpa using hF
        have HNO := Lib.hid (HNG.out (fun h => hF h.1))
        clear hF HNG HGD ho2
        go_wp2_with fail
        go_ret2
        exact SprPost.no HNO.out 3 (by rw [if_neg H3.out]) B2
end Go.Proofs.Ytdcnpbdkhcdinaa
