/- the comparison of equal bodies, of equal grounds. -/
import Derived.Test.YteikggieekhfkaaGnd
import Derived.Test.YteikggieekhfkaaAwk
import Derived.Deep.RegionHeld3
namespace Go.Proofs.Yteikggieekhfkaa
open Go.RowKit

set_option maxRecDepth 100000 in
set_option maxHeartbeats 1000000 in
theorem sameBodies_yes (A A' : Option Addr) (q : List (List UInt8)) (c c' B : Nat) (w : World) (hB : B ≤ w.heap.size) (hl : q.length ≤ 9223372036854775807) (hb : ∀ x ∈ q, x.length ≤ 9223372036854775807) (h : QR w B A q) (h' : QR w B A' q) :
    Calls Try.prog 25 #[.slice A q.length c, .slice A' q.length c'] w fun e w' => e = .returned (.bool true) ∧ Below w.heap.size w w' := by
  have hne : ((q.length : Int) != (q.length : Int)) = false := by simp
  have h0 := h.lift hB
  have h0' := h'.lift hB
  clear h h'
  go_enter Try.func25, Try.ntmps25
  go_wp2_with fail
  go_loopw [13] (fun i wr => ∃ k : Nat, k ≤ q.length ∧ i = .int .i64 k ∧ Below w.heap.size w wr) (fun i _ => q.length - (intOf i).toNat)
  case atStart => exact ⟨0, Nat.zero_le _, rfl, Below.refl _ _⟩
  case round =>
    obtain ⟨k, hk, rfl, hbr⟩ := hrel
    by_cases hlt : k < q.length
    · obtain ⟨ad, X, kx, hA, hbk, hc, hr⟩ := h0.get k hlt
      obtain ⟨ad', X', kx', hA', hbk', hc', hr'⟩ := h0'.get k hlt
      subst hA hA'
      have hi0 : (0 : Int) ≤ (k : Int) := by omega
      have hi1 : (k : Int) < (q.length : Int) := by omega
      have hlen := hb q[k] (List.getElem_mem hlt)
      have HE := Lib.hid (fun (w1 : World) (hb : Below w.heap.size w w1) => (equal_yes X X' kx kx' q[k] w.heap.size w1 hlen (hr.below hb) (hr'.below hb)).mono fun e w' ⟨he, h2⟩ => (⟨he, hb.trans (h2.mono hb.size)⟩ : e = Ending.returned (.bool true) ∧ Below w.heap.size w w'))
      have HSS := Lib.hid (fun (w1 : World) (hb : Below w.heap.size w w1) => (⟨(hb.cell (by rw [add_block]; exact hbk)).trans hc, (hb.cell (by rw [add_block]; exact hbk')).trans hc'⟩ : w1.cell? (ad.add k) = some (.slice X q[k].length kx) ∧ w1.cell? (ad'.add k) = some (.slice X' q[k].length kx')))
      clear hc hc' hr hr' hlen h0 h0'
      generalize q[k].length = N at *
      go_wp2_with fail
      go_region_held3 (fun w' => w'.cell? (ad.add k) = some (.slice X N kx) ∧ w'.cell? (ad'.add k) = some (.slice X' N kx'))
        (first | with_reducible exact HSS.out _ hbr | with_reducible exact HSS.out _ hbr.drew | with_reducible exact HSS.out _ hb9 | with_reducible exact HSS.out _ hb9.drew)
        (first
         | (go_at_call 33
            with_reducible refine (HE.out _ ?_).mono ?_
            · first | with_reducible exact hbr.drew | with_reducible exact hbr
            rintro e w3 ⟨rfl, hb9⟩))
      all_goals
        go_wp2_with fail
        go_roundw
        case rel => exact ⟨k + 1, by omega, by go_num, hb9⟩
        case measure => simp [intOf]; omega
    · go_wp2_with fail
      go_ret
      exact ⟨rfl, hbr⟩
set_option maxRecDepth 100000 in
set_option maxHeartbeats 1000000 in
theorem sameGround_yes (f s : Int) (A A' : Option Addr) (q : List (List UInt8)) (c c' : Nat) (wd : Int) (st : Bool) (B : Nat) (w : World) (hB : B ≤ w.heap.size) (hl : q.length ≤ 9223372036854775807) (hb : ∀ x ∈ q, x.length ≤ 9223372036854775807) (h : QR w B A q) (h' : QR w B A' q) :
    Calls Try.prog 24 #[grdV f s (.slice A q.length c) wd st, grdV f s (.slice A' q.length c') wd st] w fun e w' => e = .returned (.bool true) ∧ Below w.heap.size w w' := by
  have HC := Lib.hid (fun (w1 : World) (hb1 : Below w.heap.size w w1) => sameBodies_yes A A' q c c' B w1 (Nat.le_trans hB hb1.size) hl hb (h.below (hb1.mono hB)) (h'.below (hb1.mono hB)))
  have HB2 := Lib.hid (two_new w)
  unfold grdV
  have e1 : (f == f) = true := by simp
  have e2 : (s == s) = true := by simp
  have e3 : (wd == wd) = true := by simp
  have e4 : (st == st) = true := by simp
  clear h h' hb
  go_enter Try.func24, Try.ntmps24
  go_wp2_with fail
  refine (HC.out _ (HB2.out _ _)).mono ?_
  rintro e w1 ⟨rfl, hb1⟩
  go_wp2_with fail
  go_ret
  exact ⟨rfl, (HB2.out _ _).trans (hb1.mono (by simp; omega))⟩
end Go.Proofs.Yteikggieekhfkaa
