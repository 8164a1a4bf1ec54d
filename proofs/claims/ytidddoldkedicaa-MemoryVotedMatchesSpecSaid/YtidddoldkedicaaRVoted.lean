/- the walk of the reference's Voted. -/
import Derived.Test.YtidddoldkedicaaVoted
import Derived.Test.YtidddoldkedicaaRReadAt
namespace Go.Proofs.Ytidddoldkedicaa
open Go.RowKit
attribute [local go_sem] setCell_draws alloc_draws

theorem rvote_bits (x y z : Nat) (hx : x < 4194304) (hy : y < 4194304) (hz : z < 4194304) :
    bits .or .i64 (bits .or .i64 (bits .and .i64 (x : Int) (y : Int)) (bits .and .i64 (y : Int) (z : Int))) (bits .and .i64 (x : Int) (z : Int)) = ((voteB x y z : Nat) : Int) := by
  have h1 : x &&& y ≤ x := Nat.and_le_left
  have h2 : x &&& z ≤ x := Nat.and_le_left
  have h3 : y &&& z ≤ y := Nat.and_le_left
  have h4 : x &&& y ||| y &&& z < 2 ^ 22 := Nat.or_lt_two_pow (by omega) (by omega)
  rw [and64 x y (by omega) (by omega), and64 x z (by omega) (by omega), and64 y z (by omega) (by omega), or64 _ _ (by omega) (by omega), or64 _ _ (by omega) (by omega), voteB_other]
def boxed5 (x1 y1 x2 y2 x3 y3 : Value) (w : World) : World := (boxed4 x1 y1 x2 y2 x3 y3 w).alloc (.cells #[x1, y1, x2, y2, x3, y3] 33)
theorem boxed5_cells (x1 y1 x2 y2 x3 y3 : Value) (w : World) (k : Nat) (v : Value) (h : #[x1, y1, x2, y2, x3, y3][k]? = some v) : (boxed5 x1 y1 x2 y2 x3 y3 w).cell? ⟨w.heap.size + 4, k, none⟩ = some v := by
  have e : (boxed5 x1 y1 x2 y2 x3 y3 w).heap[w.heap.size + 4]? = some (.cells #[x1, y1, x2, y2, x3, y3] 33 (0, 0)) := by
    have := heap_alloc_new (boxed4 x1 y1 x2 y2 x3 y3 w) (.cells #[x1, y1, x2, y2, x3, y3] 33)
    rw [boxed4_size] at this
    exact this
  simp only [World.cell?, e]
  simpa using h
set_option maxRecDepth 100000 in
set_option maxHeartbeats 4000000 in
theorem rvoted_any (A1 A1' A2 A2' A3 A3' : Option Addr) (c1 c1' c2 c2' c3 c3' : Nat) (a a' b b' d d' : List Int) (B : Nat) (w : World) (hB : B ≤ w.heap.size)
    (la : a.length ≤ 9223372036854775807) (la' : a'.length ≤ 9223372036854775807) (lb : b.length ≤ 9223372036854775807) (lb' : b'.length ≤ 9223372036854775807) (ld : d.length ≤ 9223372036854775807) (ld' : d'.length ≤ 9223372036854775807)
    (ha : IR w B A1 a) (ha' : IR w B A1' a') (hb : IR w B A2 b) (hb' : IR w B A2' b') (hd : IR w B A3 d) (hd' : IR w B A3' d') :
    Calls Try.prog 48 #[bankV A1 A1' a.length a'.length c1 c1', bankV A2 A2' b.length b'.length c2 c2', bankV A3 A3' d.length d'.length c3 c3'] w (VotePost (votedS a a' b b' d d') w) := by
  have C1 := Lib.hid (fun (w1 : World) (h : Below w.heap.size w w1) => rcheckBank_any A1 A1' c1 c1' a a' B w1 (Nat.le_trans hB h.size) la la' (ha.below (h.mono hB)) (ha'.below (h.mono hB)))
  have C2 := Lib.hid (fun (w1 : World) (h : Below w.heap.size w w1) => rcheckBank_any A2 A2' c2 c2' b b' B w1 (Nat.le_trans hB h.size) lb lb' (hb.below (h.mono hB)) (hb'.below (h.mono hB)))
  have C3 := Lib.hid (fun (w1 : World) (h : Below w.heap.size w w1) => rcheckBank_any A3 A3' c3 c3' d d' B w1 (Nat.le_trans hB h.size) ld ld' (hd.below (h.mono hB)) (hd'.below (h.mono hB)))
  have HRT := Lib.hid (show votedS a a' b b' d d' = if threeS a a' b b' d d' = 0 then ((ints (voteT (nats a) (nats b) (nats d) a.length).1, a'), (voteT (nats a) (nats b) (nats d) a.length).2, 0) else (([], []), [], threeS a a' b b' d d') from rfl)
  have HP := Lib.hid (show threeS a a' b b' d d' = if chkB a a' = 0 then (if chkB b b' = 0 then (if chkB d d' = 0 then (if b.length = a.length ∧ d.length = a.length then 0 else 3) else chkB d d') else chkB b b') else chkB a a' from rfl)
  obtain ⟨R, hRe⟩ : ∃ R, R = votedS a a' b b' d d' := ⟨_, rfl⟩
  rw [← hRe]
  rw [← hRe] at HRT
  clear hRe
  have hrt := fun q => three_right (a := a) (a' := a') (b := b) (b' := b') (c := d) (c' := d') q
  generalize threeS a a' b b' d d' = P at *
  generalize chkB a a' = K1 at *
  generalize chkB b b' = K2 at *
  generalize chkB d d' = K3 at *
  have HCL := Lib.hid (fun (w1 : World) (h : Below w.heap.size w w1) (hr : Right a a') => rcloned_any A1 A1' c1 c1' a a' B w1 (Nat.le_trans hB h.size) hr (ha.below (h.mono hB)) (ha'.below (h.mono hB)))
  unfold bankV at C1 C2 C3 HCL ⊢
  obtain ⟨ws, hws⟩ : ∃ ws, boxed5 (.slice A1 a.length c1) (.slice A1' a'.length c1') (.slice A2 b.length c2) (.slice A2' b'.length c2') (.slice A3 d.length c3) (.slice A3' d'.length c3') w = ws := ⟨_, rfl⟩
  have b4 := boxed4_below (.slice A1 a.length c1) (.slice A1' a'.length c1') (.slice A2 b.length c2) (.slice A2' b'.length c2') (.slice A3 d.length c3) (.slice A3' d'.length c3') w
  have z4 := boxed4_size (.slice A1 a.length c1) (.slice A1' a'.length c1') (.slice A2 b.length c2) (.slice A2' b'.length c2') (.slice A3 d.length c3) (.slice A3' d'.length c3') w
  obtain ⟨h1, h2, h3, h4⟩ := boxed4_held (.slice A1 a.length c1) (.slice A1' a'.length c1') (.slice A2 b.length c2) (.slice A2' b'.length c2') (.slice A3 d.length c3) (.slice A3' d'.length c3') w
  have b45 : Below (boxed4 (.slice A1 a.length c1) (.slice A1' a'.length c1') (.slice A2 b.length c2) (.slice A2' b'.length c2') (.slice A3 d.length c3) (.slice A3' d'.length c3') w).heap.size (boxed4 (.slice A1 a.length c1) (.slice A1' a'.length c1') (.slice A2 b.length c2) (.slice A2' b'.length c2') (.slice A3 d.length c3) (.slice A3' d'.length c3') w) ws := by rw [← hws]; exact box_below _ _
  have bs : Below w.heap.size w ws := b4.trans (b45.mono b4.size)
  have zs : ws.heap.size = w.heap.size + 5 := by rw [← hws]; simp [boxed5, z4]
  have h1 := h1.below b45 (by omega)
  have h2 := h2.below b45 (by omega)
  have h3 := h3.below b45 (by omega)
  have h4 := h4.below b45 (by omega)
  clear b4 z4 b45
  have k0 : ws.cell? ⟨w.heap.size + 4, 0, none⟩ = some (.slice A1 a.length c1) := by rw [← hws]; exact boxed5_cells _ _ _ _ _ _ _ 0 _ rfl
  have k1 : ws.cell? ⟨w.heap.size + 4, 1, none⟩ = some (.slice A1' a'.length c1') := by rw [← hws]; exact boxed5_cells _ _ _ _ _ _ _ 1 _ rfl
  have k2 : ws.cell? ⟨w.heap.size + 4, 2, none⟩ = some (.slice A2 b.length c2) := by rw [← hws]; exact boxed5_cells _ _ _ _ _ _ _ 2 _ rfl
  have k3 : ws.cell? ⟨w.heap.size + 4, 3, none⟩ = some (.slice A2' b'.length c2') := by rw [← hws]; exact boxed5_cells _ _ _ _ _ _ _ 3 _ rfl
  have k4 : ws.cell? ⟨w.heap.size + 4, 4, none⟩ = some (.slice A3 d.length c3) := by rw [← hws]; exact boxed5_cells _ _ _ _ _ _ _ 4 _ rfl
  have k5 : ws.cell? ⟨w.heap.size + 4, 5, none⟩ = some (.slice A3' d'.length c3') := by rw [← hws]; exact boxed5_cells _ _ _ _ _ _ _ 5 _ rfl
  unfold boxed5 boxed4 at hws
  have HWS := Lib.hid hws
  clear hws
  go_enter Try.func48, Try.ntmps48
  go_wp2_with fail
  rw [HWS.out]
  clear HWS
  go_loopw [10, 11, 23] (fun _ _ i wr => ∃ j : Nat, j ≤ 3 ∧ i = .int .i64 (idx3 j) ∧ Below ws.heap.size ws wr ∧ (1 ≤ j → K1 = 0) ∧ (2 ≤ j → K2 = 0) ∧ (3 ≤ j → K3 = 0)) (fun _ _ i _ => 4 - (intOf i).toNat)
  case atStart => exact ⟨0, by omega, rfl, Below.refl _ _, by omega, by omega, by omega⟩
  case round =>
    obtain ⟨j, hj, rfl, hb1, q1, q2, q3⟩ := hrel
    have m0 := (Below.at_ hb1 (w.heap.size + 4) (by omega) 0).trans k0
    have m1 := (Below.at_ hb1 (w.heap.size + 4) (by omega) 1).trans k1
    have m2 := (Below.at_ hb1 (w.heap.size + 4) (by omega) 2).trans k2
    have m3 := (Below.at_ hb1 (w.heap.size + 4) (by omega) 3).trans k3
    have m4 := (Below.at_ hb1 (w.heap.size + 4) (by omega) 4).trans k4
    have m5 := (Below.at_ hb1 (w.heap.size + 4) (by omega) 5).trans k5
    have hbw := bs.trans (hb1.mono (by omega))
    have hsz := hb1.size
    have hc : j = 0 ∨ j = 1 ∨ j = 2 ∨ j = 3 := by omega
    clear hj k0 k1 k2 k3 k4 k5
    rcases hc with rfl | rfl | rfl | rfl
    · have hbx := hbw.trans ((box_below (.cells #[.slice A1 a.length c1, .slice A1' a'.length c1'] 33) wr).mono (by omega))
      have C' := Lib.hid (C1.out _ hbx)
      simp only [idx3]
      go_wp2_with fail
      refine C'.out.mono ?_
      rintro e w1 ⟨rfl, hbc⟩
      have hb2 := hb1.trans (((box_below (.cells #[.slice A1 a.length c1, .slice A1' a'.length c1'] 33) wr).trans (hbc.mono (by simp))).mono hsz)
      by_cases hk : K1 = 0
      · subst hk
        go_wp2_with fail
        exact ⟨⟨1, by omega, rfl, hb2, by simp, by omega, by omega⟩, by simp [intOf]⟩
      · have hk' : (K1 != 0) = true := by simpa using hk
        have HP2 : P = K1 := by have := HP.out; simpa [hk] using this
        have HR2 : Hid (R = (([], []), [], K1)) := Lib.hid (by have := HRT.out; rw [HP2, if_neg hk] at this; exact this)
        clear HP2
        have hx4 := h4.below hb2 (by omega)
        obtain ⟨j1, j2⟩ := hx4.cells
        have j3 := hx4.free 0
        have j4 := hx4.free 1
        have bxe := bs.trans (hb2.mono (by omega))
        go_wp2_with fail
        refine bodyPost_ret (v := .tuple #[.agg #[.slice .none 0 0, .slice .none 0 0], .slice .none 0 0, .int .i64 K1]) (by simp [results, Try.results48, go_sem, j1, j2]) rfl ?_
        rw [HR2.out]
        exact votePost_none _ ((bxe.setCell (p := ⟨w.heap.size + 3, 0, .none⟩) (by simp) _).setCell (p := ⟨w.heap.size + 3, 1, .none⟩) (by simp) _)
    · have q1 := q1 (by omega)
      subst q1
      have hbx := hbw.trans ((box_below (.cells #[.slice A2 b.length c2, .slice A2' b'.length c2'] 33) wr).mono (by omega))
      have C' := Lib.hid (C2.out _ hbx)
      simp only [idx3]
      go_wp2_with fail
      refine C'.out.mono ?_
      rintro e w1 ⟨rfl, hbc⟩
      have hb2 := hb1.trans (((box_below (.cells #[.slice A2 b.length c2, .slice A2' b'.length c2'] 33) wr).trans (hbc.mono (by simp))).mono hsz)
      by_cases hk : K2 = 0
      · subst hk
        go_wp2_with fail
        exact ⟨⟨2, by omega, rfl, hb2, by simp, by simp, by omega⟩, by simp [intOf]⟩
      · have hk' : (K2 != 0) = true := by simpa using hk
        have HP2 : P = K2 := by have := HP.out; simpa [hk] using this
        have HR2 : Hid (R = (([], []), [], K2)) := Lib.hid (by have := HRT.out; rw [HP2, if_neg hk] at this; exact this)
        clear HP2
        have hx4 := h4.below hb2 (by omega)
        obtain ⟨j1, j2⟩ := hx4.cells
        have j3 := hx4.free 0
        have j4 := hx4.free 1
        have bxe := bs.trans (hb2.mono (by omega))
        go_wp2_with fail
        refine bodyPost_ret (v := .tuple #[.agg #[.slice .none 0 0, .slice .none 0 0], .slice .none 0 0, .int .i64 K2]) (by simp [results, Try.results48, go_sem, j1, j2]) rfl ?_
        rw [HR2.out]
        exact votePost_none _ ((bxe.setCell (p := ⟨w.heap.size + 3, 0, .none⟩) (by simp) _).setCell (p := ⟨w.heap.size + 3, 1, .none⟩) (by simp) _)
    · have q1 := q1 (by omega)
      subst q1
      have q2 := q2 (by omega)
      subst q2
      have hbx := hbw.trans ((box_below (.cells #[.slice A3 d.length c3, .slice A3' d'.length c3'] 33) wr).mono (by omega))
      have C' := Lib.hid (C3.out _ hbx)
      simp only [idx3]
      go_wp2_with fail
      refine C'.out.mono ?_
      rintro e w1 ⟨rfl, hbc⟩
      have hb2 := hb1.trans (((box_below (.cells #[.slice A3 d.length c3, .slice A3' d'.length c3'] 33) wr).trans (hbc.mono (by simp))).mono hsz)
      by_cases hk : K3 = 0
      · subst hk
        go_wp2_with fail
        exact ⟨⟨3, by omega, rfl, hb2, by simp, by simp, by simp⟩, by simp [intOf]⟩
      · have hk' : (K3 != 0) = true := by simpa using hk
        have HP2 : P = K3 := by have := HP.out; simpa [hk] using this
        have HR2 : Hid (R = (([], []), [], K3)) := Lib.hid (by have := HRT.out; rw [HP2, if_neg hk] at this; exact this)
        clear HP2
        have hx4 := h4.below hb2 (by omega)
        obtain ⟨j1, j2⟩ := hx4.cells
        have j3 := hx4.free 0
        have j4 := hx4.free 1
        have bxe := bs.trans (hb2.mono (by omega))
        go_wp2_with fail
        refine bodyPost_ret (v := .tuple #[.agg #[.slice .none 0 0, .slice .none 0 0], .slice .none 0 0, .int .i64 K3]) (by simp [results, Try.results48, go_sem, j1, j2]) rfl ?_
        rw [HR2.out]
        exact votePost_none _ ((bxe.setCell (p := ⟨w.heap.size + 3, 0, .none⟩) (by simp) _).setCell (p := ⟨w.heap.size + 3, 1, .none⟩) (by simp) _)
    · have q1 := q1 (by omega)
      subst q1
      have q2 := q2 (by omega)
      subst q2
      have q3 := q3 (by omega)
      subst q3
      clear m0 m1 m2 m3 m4 m5 C1 C2 C3
      obtain ⟨x1, x1'⟩ := (h1.below hb1 (by omega)).cells
      obtain ⟨x2, -⟩ := (h2.below hb1 (by omega)).cells
      obtain ⟨x3, -⟩ := (h3.below hb1 (by omega)).cells
      simp only [idx3]
      by_cases hl1 : b.length = a.length
      · have n1 : ((b.length : Int) != (a.length : Int)) = false := by simp; omega
        by_cases hl2 : d.length = a.length
        · have n2 : ((d.length : Int) != (a.length : Int)) = false := by simp; omega
          have HP2 : P = 0 := by have := HP.out; simpa [hl1, hl2] using this
          have HR : Hid (R = ((ints (voteT (nats a) (nats b) (nats d) a.length).1, a'), (voteT (nats a) (nats b) (nats d) a.length).2, 0)) := Lib.hid (by have := HRT.out; rw [HP2, if_pos rfl] at this; exact this)
          obtain ⟨r1, r2, r3, -, -⟩ := hrt HP2
          generalize wr = w1 at *
          have hfew := r1.few
          have hpos := r1.pos
          have HSAME := Lib.hid r1.same
          have HRIGHT := Lib.hid r1
          have ia := right_ints r1
          have ib := right_ints r2
          have id' := right_ints r3
          have la2 := nats_len a
          have lb2 := nats_len b
          have ld2 := nats_len d
          have HCa : Hid (∀ k (h : k < (nats a).length), (nats a)[k] < 4194304) := Lib.hid (right_ok r1 0 hpos []).codes
          have HCb : Hid (∀ k (h : k < (nats b).length), (nats b)[k] < 4194304) := Lib.hid (right_ok r2 0 (by omega) []).codes
          have HCd : Hid (∀ k (h : k < (nats d).length), (nats d)[k] < 4194304) := Lib.hid (right_ok r3 0 (by omega) []).codes
          rw [← ia] at ha
          rw [← ib] at hb
          rw [← id'] at hd
          have HL1 := Lib.hid hl1
          have HL2 := Lib.hid hl2
          have HIA := Lib.hid ia
          clear r1 r2 r3 ib id' hl1 hl2 ia
          clear hrt HP2 hbw hsz
          have bx1 := bs.trans (hb1.mono (by omega))
          clear bs
          go_wp2_with fail
          refine (HCL.out w1 bx1 HRIGHT.out).mono ?_
          rintro e w2 ⟨v, rfl, g, cap, g', cap', rfl, hg, hgg, hrow, hrow', hb3⟩
          unfold bankV
          have hs1 := hb1.size
          have hszs := zs
          have hs2 := bx1.size
          have hs3 := hb3.size
          have g2 := hrow.lt
          have g2' := hrow'.lt
          generalize hw9 : w2.alloc (.cells #[.slice (some ⟨g, 0, none⟩) a.length cap, .slice (some ⟨g', 0, none⟩) a'.length cap'] 33) = w9
          have b9 : Below w2.heap.size w2 w9 := by rw [← hw9]; exact box_below _ _
          have z9 : w9.heap.size = w2.heap.size + 1 := by rw [← hw9]; simp
          have h9 : HeldB w9 w2.heap.size (.slice (some ⟨g, 0, none⟩) a.length cap) (.slice (some ⟨g', 0, none⟩) a'.length cap') := by rw [← hw9]; exact HeldB.new w2 _ _
          have r9 := hrow.below b9 g2
          have r9' := hrow'.below b9 g2'
          have b19 : Below w1.heap.size w1 w9 := hb3.trans (b9.mono hs3)
          have b09 : Below ws.heap.size ws w9 := hb1.trans (b19.mono hs1)
          have k1 := h1.below b09 (by omega)
          have k2 := h2.below b09 (by omega)
          have k3 := h3.below b09 (by omega)
          have k4 := h4.below b09 (by omega)
          have bx9 := bx1.trans (b19.mono (by omega))
          have ha9 := (ha.lift hB).below bx9
          have hb9 := (hb.lift hB).below bx9
          have hd9 := (hd.lift hB).below bx9
          have hat : VoteAt w9.heap.size g cap (voteT (nats a) (nats b) (nats d) 0) (.slice none 0 0) w9 w9 := ⟨by show RowAt w9 g cap (ints (nats a)); rw [HIA.out]; exact r9, OwnI.nil _ _, Kept.refl _ _ _⟩
          clear x1 x1' x2 x3
          obtain ⟨e1, e1'⟩ := k1.cells
          go_wp2_with fail
          clear hw9 e1 e1'
          go_loopw [13, 14, 15, 16, 17, 56] (fun v _ _ _ _ i wr => ∃ k : Nat, k ≤ a.length ∧ i = .int .i64 (k : Int) ∧ VoteAt w9.heap.size g cap (voteT (nats a) (nats b) (nats d) k) v w9 wr) (fun _ _ _ _ _ i _ => a.length - (intOf i).toNat)
          case atStart => exact ⟨0, Nat.zero_le _, rfl, hat⟩
          case round =>
            obtain ⟨k, hk, rfl, hR, hO, hK⟩ := hrel
            by_cases hlt : k < a.length
            · have hlen := vote_len (nats a) (nats b) (nats d) k
              have hDl := vote_few (nats a) (nats b) (nats d) k
              have hka : k < (nats a).length := by omega
              have hkb : k < (nats b).length := by have := HL1.out; omega
              have hkd : k < (nats d).length := by have := HL2.out; omega
              have bK := (hK.to (by omega)).mono (show w.heap.size ≤ g by omega)
              obtain ⟨ad1, hA1, hd1, x1⟩ := (ha9.below bK).get k (by rw [ints_len]; exact hka)
              obtain ⟨ad2, hA2, hd2, x2⟩ := (hb9.below bK).get k (by rw [ints_len]; exact hkb)
              obtain ⟨ad3, hA3, hd3, x3⟩ := (hd9.below bK).get k (by rw [ints_len]; exact hkd)
              rw [ints_get _ k hka] at x1
              rw [ints_get _ k hkb] at x2
              rw [ints_get _ k hkd] at x3
              have gx : (nats a).getD k 0 = (nats a)[k] := by simp [List.getD, hka]
              have gy : (nats b).getD k 0 = (nats b)[k] := by simp [List.getD, hkb]
              have gz : (nats d).getD k 0 = (nats d)[k] := by simp [List.getD, hkd]
              have HS := Lib.hid (show voteT (nats a) (nats b) (nats d) (k + 1) = ((voteT (nats a) (nats b) (nats d) k).1.set k (voteB ((nats a).getD k 0) ((nats b).getD k 0) ((nats d).getD k 0)), if diffB ((nats a).getD k 0) ((nats b).getD k 0) ((nats d).getD k 0) = true then (voteT (nats a) (nats b) (nats d) k).2 ++ [(k : Int)] else (voteT (nats a) (nats b) (nats d) k).2) from rfl)
              rw [gx, gy, gz] at HS
              have hxl := HCa.out k hka
              have hyl := HCb.out k hkb
              have hzl := HCd.out k hkd
              have HBIT := Lib.hid (rvote_bits _ _ _ hxl hyl hzl)
              generalize voteT (nats a) (nats b) (nats d) k = q at *
              obtain ⟨C, D⟩ := q
              simp only at hR hO hlen hDl HS
              generalize (nats a)[k] = x at *
              generalize (nats b)[k] = y at *
              generalize (nats d)[k] = z at *
              have hj2 := hK.heldB k2 (by omega) (by omega)
              have hj3 := hK.heldB k3 (by omega) (by omega)
              have hj9 := hK.heldB h9 (by omega) (by omega)
              obtain ⟨e1, -⟩ := (hK.heldB k1 (by omega) (by omega)).cells
              obtain ⟨e2, -⟩ := hj2.cells
              obtain ⟨e3, -⟩ := hj3.cells
              obtain ⟨e9, -⟩ := hj9.cells
              have hkC : k < (ints C).length := by rw [ints_len]; omega
              have m1 := hR.cell k hkC
              have m2 := hR.free k
              have hk0 : (0 : Int) ≤ (k : Int) := Int.natCast_nonneg _
              have hk1 : (k : Int) < (a.length : Int) := by omega
              have hk2 : (k : Int) < (b.length : Int) := by have := HL1.out; omega
              have hk3 : (k : Int) < (d.length : Int) := by have := HL2.out; omega
              have hNb : k < b.length := by omega
              have hNd : k < d.length := by omega
              subst hA1 hA2 hA3
              have hR5 := hR.drew
              have hO5 := hO.drew
              have hK5 := hK.drew
              have HVV := Lib.hid (show ((voteB x y z : Nat) : Int) = ((voteB x y z : Nat) : Int) from rfl)
              clear gx gy gz hka hkb hkd HCa HCb HCd hxl hyl hzl
              go_wp2_with fail
              go_region
              have n9 : wr.drew.cell? ⟨w2.heap.size, 0, none⟩ = some (.slice (some ⟨g, 0, none⟩) a.length cap) := e9
              have n1 : wr.drew.frozen? ⟨g, k, none⟩ = false := m2
              have n2 : wr.drew.cell? ⟨g, k, none⟩ = some (.int .i64 (ints C)[k]) := m1
              clear e1 e2 e3 e9 m1 m2 x1 x2 x3 hR hO hK hj2 hj3 hj9 bK
              generalize wr.drew = w5 at *
              go_upto_region 17 with fail
              rw [HBIT.out]
              have hR6 := hR5.set k ((voteB x y z : Nat) : Int)
              rw [ints_set] at hR6
              have hO6 := hO5.other (p := g) (k := k) (u := .int .i64 ((voteB x y z : Nat) : Int)) (by omega)
              have hK6 := hK5.setG (k := k) (u := .int .i64 ((voteB x y z : Nat) : Int))
              clear n9 n1 n2 hR5 hO5 hK5 HVV
              generalize w5.setCell ⟨g, k, none⟩ (.int .i64 ((voteB x y z : Nat) : Int)) = w6 at *
              cases hdf : diffB x y z
              · have HS2 : Hid (voteT (nats a) (nats b) (nats d) (k + 1) = (C.set k (voteB x y z), D)) := Lib.hid (by have := HS.out; rw [hdf] at this; simpa using this)
                obtain ⟨u1, u2⟩ := diff_false hdf
                clear HS hdf HBIT
                generalize voteB x y z = V at *
                subst u1 u2
                go_wp2_with fail
                refine ⟨⟨k + 1, by omega, by go_num, ?_⟩, by simp [intOf]; omega⟩
                rw [HS2.out]
                exact ⟨hR6, hO6, hK6⟩
              · have HS2 : Hid (voteT (nats a) (nats b) (nats d) (k + 1) = (C.set k (voteB x y z), D ++ [(k : Int)])) := Lib.hid (by have := HS.out; rw [hdf, if_pos rfl] at this; exact this)
                have hdd := diff_true hdf
                clear HS hdf HBIT
                generalize voteB x y z = V at *
                by_cases hxy : x = y
                · have hxz : x ≠ z := by omega
                  subst hxy
                  have t2 : ((x : Int) != (z : Int)) = true := by simp; omega
                  clear hdd hxz
                  have hsz6 := hK6.size
                  have HO1 := Lib.hid (fun q (hq : Value.ownBlock u13 = some q) => (World.ownsRow.lt hO6 q hq).1)
                  have HBW := Lib.hid (fun o => (Below.refl w9.heap.size w6).alloc (by omega) o)
                  go_wp2_with (first | (at_builtin; refine wpList_app _ rfl (.tmp 97) (.tmp 99) 31 3 1 8 rfl elemI w9.heap.size u13 D.length (D.map iv) rfl (World.ownsRow.alloc hO6 _) (w6.heap.size + 1) _ 1 1 ([(k : Int)].map iv) rfl rfl (Cells.fresh w6 _ 3 _ _ rfl) (iv_one _) (by unfold maxLen; omega) (by omega) (by simp; omega) ?_; intro v3 w7 hown3 hgrow3 hat3; have hb7 := (HBW.out _).grown hgrow3 (by simp; omega) HO1.out) | fail)
                  have ho3 := OwnI.of (a := D) (b := [(k : Int)]) hown3 rfl
                  refine ⟨⟨k + 1, by omega, by go_num, ?_⟩, by simp [intOf]; omega⟩
                  rw [HS2.out]
                  exact ⟨hR6.below hb7 (by omega), ho3, hK6.trans (Kept.of hb7)⟩
                · have t1 : ((x : Int) != (y : Int)) = true := by simp; omega
                  clear hdd hxy
                  have hsz6 := hK6.size
                  have HO1 := Lib.hid (fun q (hq : Value.ownBlock u13 = some q) => (World.ownsRow.lt hO6 q hq).1)
                  have HBW := Lib.hid (fun o => (Below.refl w9.heap.size w6).alloc (by omega) o)
                  go_wp2_with (first | (at_builtin; refine wpList_app _ rfl (.tmp 97) (.tmp 99) 31 3 1 8 rfl elemI w9.heap.size u13 D.length (D.map iv) rfl (World.ownsRow.alloc hO6 _) (w6.heap.size + 1) _ 1 1 ([(k : Int)].map iv) rfl rfl (Cells.fresh w6 _ 3 _ _ rfl) (iv_one _) (by unfold maxLen; omega) (by omega) (by simp; omega) ?_; intro v3 w7 hown3 hgrow3 hat3; have hb7 := (HBW.out _).grown hgrow3 (by simp; omega) HO1.out) | fail)
                  have ho3 := OwnI.of (a := D) (b := [(k : Int)]) hown3 rfl
                  refine ⟨⟨k + 1, by omega, by go_num, ?_⟩, by simp [intOf]; omega⟩
                  rw [HS2.out]
                  exact ⟨hR6.below hb7 (by omega), ho3, hK6.trans (Kept.of hb7)⟩
            · obtain rfl : k = a.length := by omega
              have hlen := vote_len (nats a) (nats b) (nats d) a.length
              rw [la2] at hlen
              generalize voteT (nats a) (nats b) (nats d) a.length = q at *
              obtain ⟨C, D⟩ := q
              simp only at hR hO hlen HR
              obtain ⟨Dd, ck, rfl, hID⟩ := hO.form
              obtain ⟨i1, i2⟩ := (hK.heldB h9 (by omega) (by omega)).cells
              have hx4 := hK.heldB k4 (by omega) (by omega)
              obtain ⟨j1, j2⟩ := hx4.cells
              have j3 := hx4.free 0
              have j4 := hx4.free 1
              have hrs := hK.row r9' (by omega) (by omega)
              have bw : Below w.heap.size w wr := bx9.trans ((hK.to (by omega)).mono (by omega))
              have hO7 := (hO.other (p := w.heap.size + 3) (k := 0) (u := .slice (some ⟨g, 0, .none⟩) a.length cap) (by omega)).other (p := w.heap.size + 3) (k := 1) (u := .slice (some ⟨g', 0, .none⟩) a'.length cap') (by omega)
              go_wp2_with fail
              refine bodyPost_ret (v := .tuple #[.agg #[.slice (some ⟨g, 0, .none⟩) a.length cap, .slice (some ⟨g', 0, .none⟩) a'.length cap'], .slice Dd D.length ck, .int .i64 0]) (by simp [results, Try.results48, go_sem, j1, j2]) rfl ?_
              rw [HR.out]
              obtain ⟨A9, c9, hv9, hI9⟩ := hO7.form
              injection hv9 with e91 e92 e93
              subst e91
              refine ⟨some ⟨g, 0, .none⟩, some ⟨g', 0, .none⟩, cap, cap', Dd, ck, by simp [bankV, ints_len, hlen], ?_, ?_, hI9, ?_⟩
              · exact (((hR.other (by omega)).other (by omega)).ir).lift (Nat.le_refl _)
              · exact (((hrs.other (by omega)).other (by omega)).ir).lift (Nat.le_refl _)
              · exact (bw.setCell (p := ⟨w.heap.size + 3, 0, .none⟩) (by simp) _).setCell (p := ⟨w.heap.size + 3, 1, .none⟩) (by simp) _
        · have n2 : ((d.length : Int) != (a.length : Int)) = true := by simp; omega
          have HP2 : P = 3 := by have := HP.out; simpa [hl1, hl2] using this
          have HR2 : Hid (R = (([], []), [], 3)) := Lib.hid (by have := HRT.out; rw [HP2, if_neg (by omega)] at this; exact this)
          clear hl1 hl2 HP2
          have hx4 := h4.below hb1 (by omega)
          obtain ⟨j1, j2⟩ := hx4.cells
          have j3 := hx4.free 0
          have j4 := hx4.free 1
          have bxe := bs.trans (hb1.mono (by omega))
          go_wp2_with fail
          refine bodyPost_ret (v := .tuple #[.agg #[.slice .none 0 0, .slice .none 0 0], .slice .none 0 0, .int .i64 3]) (by simp [results, Try.results48, go_sem, j1, j2]) rfl ?_
          rw [HR2.out]
          exact votePost_none _ ((bxe.setCell (p := ⟨w.heap.size + 3, 0, .none⟩) (by simp) _).setCell (p := ⟨w.heap.size + 3, 1, .none⟩) (by simp) _)
      · have n1 : ((b.length : Int) != (a.length : Int)) = true := by simp; omega
        have HP2 : P = 3 := by have := HP.out; simpa [hl1] using this
        have HR2 : Hid (R = (([], []), [], 3)) := Lib.hid (by have := HRT.out; rw [HP2, if_neg (by omega)] at this; exact this)
        clear hl1 HP2
        have hx4 := h4.below hb1 (by omega)
        obtain ⟨j1, j2⟩ := hx4.cells
        have j3 := hx4.free 0
        have j4 := hx4.free 1
        have bxe := bs.trans (hb1.mono (by omega))
        go_wp2_with fail
        refine bodyPost_ret (v := .tuple #[.agg #[.slice .none 0 0, .slice .none 0 0], .slice .none 0 0, .int .i64 3]) (by simp [results, Try.results48, go_sem, j1, j2]) rfl ?_
        rw [HR2.out]
        exact votePost_none _ ((bxe.setCell (p := ⟨w.heap.size + 3, 0, .none⟩) (by simp) _).setCell (p := ⟨w.heap.size + 3, 1, .none⟩) (by simp) _)
end Go.Proofs.Ytidddoldkedicaa
