/- the walk of the reference's scrub. -/
import Derived.Test.YteelepjhlhifhaaScrubW
import Derived.Test.YteelepjhlhifhaaRKinds
import Derived.Test.YteelepjhlhifhaaRFlippedB
namespace Go.Proofs.Yteelepjhlhifhaa
open Go.RowKit
attribute [local go_sem] setCell_draws alloc_draws

theorem scrub_next {s : St} {n t : Nat} (h : s.ok n) : ∀ j, (scrubT t j s).next = (s.next + j) % n
  | 0 => by rw [Nat.add_zero, Nat.mod_eq_of_lt h.next]; rfl
  | j + 1 => by
    have ih := scrub_next h (t := t) j
    have hl := (scrub_ok h (t := t) j).len
    simp only [scrubT, stepS, hl, ih]
    rw [← Nat.add_assoc, Nat.mod_add_mod]
/-- what the reference's scrub leaves -/
def RScrubAt (Q g n cap g' cap' n' : Nat) (s : St) (v : Value) (w w' : World) : Prop :=
  HeldB w' Q (.slice (some ⟨g, 0, none⟩) n cap) (.slice (some ⟨g', 0, none⟩) n' cap') ∧ RowAt w' g cap (ints s.C) ∧ OwnS w' (Q + 1) v s.done ∧ Kept Q g w w'
set_option maxRecDepth 100000 in
set_option maxHeartbeats 2000000 in
theorem rscrub_any (g n cap g' cap' n' t many : Nat) (s : St) (w : World) (hs : s.ok n) (hsd : s.done = []) (hn : n ≤ 2000) (hm : many ≤ 1000000) (h2 : RowAt w g cap (ints s.C)) :
    Calls Try.prog 108 #[bankV (some ⟨g, 0, none⟩) (some ⟨g', 0, none⟩) n n' cap cap', .int .i64 (s.next : Int), .int .i64 (many : Int), .int .i64 (t : Int)] w fun e w' =>
      ∃ v, e = .returned v ∧ RowAt w' g cap (ints (scrubT t many s).C) ∧ OwnS w' w.heap.size v (scrubT t many s).done ∧ Kept w.heap.size g w w' := by
  unfold bankV
  have hgl := h2.lt
  obtain ⟨w0, hw0⟩ : ∃ w0, w.alloc (.cells #[.slice (some ⟨g, 0, none⟩) n cap, .slice (some ⟨g', 0, none⟩) n' cap'] 52) = w0 := ⟨_, rfl⟩
  have hat : RScrubAt w.heap.size g n cap g' cap' n' s (.slice none 0 0) w w0 := by
    rw [← hw0]
    refine ⟨HeldB.new _ _ _, h2.below (box_below _ _) hgl, ?_, (Kept.refl _ _ _).alloc (Nat.le_refl _) _⟩
    rw [hsd]
    exact OwnS.nil _ _
  have hx0 := hs.next
  have HNX := Lib.hid (fun j => scrub_next hs (t := t) j)
  have HD0 := Lib.hid (show s.done.length = 0 by rw [hsd]; rfl)
  clear hsd
  go_enter Try.func108, Try.ntmps108
  go_wp2_with fail
  try rw [hw0]
  clear hw0
  go_loopw [9, 10, 11, 12, 13, 15] (fun v _ _ _ _ i wr => ∃ j : Nat, j ≤ many ∧ i = .int .i64 (j : Int) ∧ RScrubAt w.heap.size g n cap g' cap' n' (scrubT t j s) v w wr) (fun _ _ _ _ _ i _ => many - (intOf i).toNat)
  case atStart => exact ⟨0, Nat.zero_le _, rfl, hat⟩
  case round =>
    obtain ⟨j, hj, rfl, hcur⟩ := hrel
    by_cases hlt : j < many
    · have hok := scrub_ok hs (t := t) j
      have hdn := scrub_done t s j
      rw [HD0.out] at hdn
      have hnx := HNX.out j
      have HS := Lib.hid (show scrubT t (j + 1) s = stepS t (scrubT t j s) from rfl)
      generalize scrubT t j s = q at *
      obtain ⟨C, x, D⟩ := q
      obtain ⟨q1, q2, q3⟩ := hok
      obtain ⟨hS, hR, hO, hK⟩ := hcur
      simp only at q1 q2 q3 hS hR hO hdn hnx
      obtain ⟨s0, s1⟩ := hS.cells
      have hx : x < C.length := by omega
      have hcell := hR.cell x (by rw [ints_len]; exact hx)
      rw [ints_get C x hx] at hcell
      have hfree := hR.free x
      have hk0 : (0 : Int) ≤ (x : Int) := Int.natCast_nonneg _
      have hk1 : (x : Int) < (n : Int) := by omega
      have hgd : C.getD x 0 = C[x] := by simp [List.getD, hx]
      have hcl := q3 x hx
      unfold stepS at HS
      simp only [hgd] at HS
      have HQ1 := Lib.hid q1
      have HSET := Lib.hid (show C.set x C[x] = C from by simp)
      have HX1 : ((s.next : Int) + (j : Int)) % (n : Int) = (x : Int) := by rw [hnx]; simp
      have hn0 : ((n : Int) == 0) = false := beq_eq_false_iff_ne.2 (by omega)
      have HPG : w.heap.size ≠ g := by omega
      clear q3 hgd q1 hnx
      generalize C[x] = c at *
      have HK := Lib.hid (rkind_any c hcl)
      have hk3 := kind_three c
      have hkb := kind_bit c
      generalize hkk : kindN c = kk at *
      have HKK := Lib.hid hkk
      clear hkk
      obtain ⟨kk, bb⟩ := kk
      simp only at HK hk3 hkb HS
      rcases hk3 with rfl | rfl | rfl
      · have hm : mend c = c := by unfold mend; rw [HKK.out]; simp
        have hHS : Hid (scrubT t (j + 1) s = ⟨C, (x + 1) % n, D⟩) := Lib.hid (by have h := HS.out; have h1 := HQ1.out; rw [hm, if_pos rfl, h1, HSET.out] at h; exact h)
        clear HS hkb hm
        go_wp2_with (first | (go_at_call 115; refine (HK.out _).mono ?_; rintro e w' ⟨rfl, rfl⟩) | fail)
        refine ⟨⟨j + 1, by omega, by go_num, ?_⟩, by simp [intOf]; omega⟩
        rw [hHS.out]
        exact ⟨hS, hR, hO, hK⟩
      · obtain ⟨hb1, hb2⟩ := hkb rfl
        obtain ⟨bb, rfl⟩ : ∃ b', bb = b' + 1 := ⟨bb - 1, by omega⟩
        have hm : mend c = c ^^^ 2 ^ bb := by unfold mend; rw [HKK.out]; simp
        have hHS : Hid (scrubT t (j + 1) s = ⟨C.set x (c ^^^ 2 ^ bb), (x + 1) % n, D ++ [⟨t, x, 2, bb + 1⟩]⟩) := Lib.hid (by have h := HS.out; have h1 := HQ1.out; rw [hm, if_neg (by omega), h1] at h; exact h)
        have hwp := wpow bb (by omega)
        rw [show ((2 ^ bb : Nat) : Int) = (2 : Int) ^ bb by simp] at hwp
        have hxu := xor_up c bb hcl (by omega)
        clear HS hkb hm
        generalize c ^^^ 2 ^ bb = X at *
        have hgr := hR.lt
        have hQr := hS.lt
        rw [show ((bb + 1 : Nat) : Int) = (bb : Int) + 1 by omega] at HK
        go_wp2_with (first | (go_at_call 115; refine (HK.out _).mono ?_; rintro e w' ⟨rfl, rfl⟩) | fail)
        go_region
        have hS5 := (hS.other (k := x) (u := .int .i64 (X : Int)) HPG).drew
        have hR5 := (hR.set x (X : Int)).drew
        rw [ints_set] at hR5
        have hO5 := (hO.other (p := g) (k := x) (u := .int .i64 (X : Int)) (by omega)).drew
        have hK5 := (hK.setG (k := x) (u := .int .i64 (X : Int))).drew
        have hg5 := hR5.lt
        have hQ5 := hS5.lt
        clear s0 s1 hcell hfree hS hR hO hK hwp hxu
        generalize World.drew _ = w5 at *
        have HO1 := Lib.hid (fun k (hk : Value.ownBlock u9 = some k) => (World.ownsRow.lt hO5 k hk).1)
        have HB := Lib.hid (fun o => (Below.refl (w.heap.size + 1) w5).alloc (by omega) o)
        go_wp2_with (first | (at_builtin; refine wpList_app _ rfl (.tmp 48) (.tmp 54) 55 123 4 32 rfl elemS (w.heap.size + 1) u9 D.length (scells D) rfl (World.ownsRow.alloc hO5 _) (w5.heap.size + 1) _ 1 1 (scells [⟨t, x, 2, bb + 1⟩]) rfl rfl (Cells.fresh w5 _ 123 _ _ rfl) (scells_one _) (by unfold maxLen; omega) (by omega) (by simp; omega) ?_; intro v3 w3 hown3 hgrow3 hat3; have hb3 := (HB.out _).grown hgrow3 (by simp; omega) HO1.out) | fail)
        have ho3 := OwnS.of (a := D) (b := [⟨t, x, 2, bb + 1⟩]) hown3 rfl
        refine ⟨⟨j + 1, by omega, by go_num, ?_⟩, by simp [intOf]; omega⟩
        rw [hHS.out]
        exact ⟨hS5.below hb3 (by omega), hR5.below hb3 (by omega), ho3, hK5.trans (Kept.of (hb3.mono (by omega)))⟩
      · have hm : mend c = c := by unfold mend; rw [HKK.out]; simp
        have hHS : Hid (scrubT t (j + 1) s = ⟨C, (x + 1) % n, D ++ [⟨t, x, 3, bb⟩]⟩) := Lib.hid (by have h := HS.out; have h1 := HQ1.out; rw [hm, if_neg (by omega), h1, HSET.out] at h; exact h)
        clear HS hkb hm
        have hgr := hR.lt
        have hQr := hS.lt
        have HO1 := Lib.hid (fun k (hk : Value.ownBlock u9 = some k) => (World.ownsRow.lt hO k hk).1)
        have HB := Lib.hid (fun o => (Below.refl (w.heap.size + 1) wr).alloc (by omega) o)
        go_wp2_with (first | (go_at_call 115; refine (HK.out _).mono ?_; rintro e w' ⟨rfl, rfl⟩) | (at_builtin; refine wpList_app _ rfl (.tmp 48) (.tmp 54) 55 123 4 32 rfl elemS (w.heap.size + 1) u9 D.length (scells D) rfl (World.ownsRow.alloc hO _) (wr.heap.size + 1) _ 1 1 (scells [⟨t, x, 3, bb⟩]) rfl rfl (Cells.fresh wr _ 123 _ _ rfl) (scells_one _) (by unfold maxLen; omega) (by omega) (by simp; omega) ?_; intro v3 w3 hown3 hgrow3 hat3; have hb3 := (HB.out _).grown hgrow3 (by simp; omega) HO1.out) | fail)
        have ho3 := OwnS.of (a := D) (b := [⟨t, x, 3, bb⟩]) hown3 rfl
        refine ⟨⟨j + 1, by omega, by go_num, ?_⟩, by simp [intOf]; omega⟩
        rw [hHS.out]
        exact ⟨hS.below hb3 (by omega), hR.below hb3 (by omega), ho3, hK.trans (Kept.of (hb3.mono (by omega)))⟩
    · obtain rfl : j = many := by omega
      obtain ⟨hS, hR, hO, hK⟩ := hcur
      go_wp2_with fail
      go_ret
      exact ⟨_, rfl, hR, hO.lower (by omega), hK⟩
end Go.Proofs.Yteelepjhlhifhaa
