/- the walk of the program's Voted. -/
import Derived.Test.YtidddoldkedicaaThree
import Derived.Test.YtidddoldkedicaaScrubW
import Derived.Deep.Cut
namespace Go.Proofs.Ytidddoldkedicaa
open Go.RowKit
attribute [local go_sem] setCell_draws alloc_draws

def boxed4 (x1 y1 x2 y2 x3 y3 : Value) (w : World) : World :=
  (((w.alloc (.cells #[x1, y1] 33)).alloc (.cells #[x2, y2] 33)).alloc (.cells #[x3, y3] 33)).alloc (.cells #[.slice none 0 0, .slice none 0 0] 33)
theorem boxed4_below (x1 y1 x2 y2 x3 y3 : Value) (w : World) : Below w.heap.size w (boxed4 x1 y1 x2 y2 x3 y3 w) := ((((Below.refl _ _).alloc (Nat.le_refl _) _).alloc (by simp) _).alloc (by simp <;> omega) _).alloc (by simp <;> omega) _
theorem boxed4_size (x1 y1 x2 y2 x3 y3 : Value) (w : World) : (boxed4 x1 y1 x2 y2 x3 y3 w).heap.size = w.heap.size + 4 := by simp [boxed4]
theorem boxed4_held (x1 y1 x2 y2 x3 y3 : Value) (w : World) : HeldB (boxed4 x1 y1 x2 y2 x3 y3 w) w.heap.size x1 y1 ∧ HeldB (boxed4 x1 y1 x2 y2 x3 y3 w) (w.heap.size + 1) x2 y2 ∧ HeldB (boxed4 x1 y1 x2 y2 x3 y3 w) (w.heap.size + 2) x3 y3 ∧ HeldB (boxed4 x1 y1 x2 y2 x3 y3 w) (w.heap.size + 3) (.slice none 0 0) (.slice none 0 0) := by
  have h1 := HeldB.new w x1 y1
  have h2 := HeldB.new (w.alloc (.cells #[x1, y1] 33)) x2 y2
  have h3 := HeldB.new ((w.alloc (.cells #[x1, y1] 33)).alloc (.cells #[x2, y2] 33)) x3 y3
  have h4 := HeldB.new (((w.alloc (.cells #[x1, y1] 33)).alloc (.cells #[x2, y2] 33)).alloc (.cells #[x3, y3] 33)) (.slice none 0 0) (.slice none 0 0)
  simp only [World.size_alloc] at h2 h3 h4
  have b1 : Below (w.heap.size + 1) (w.alloc (.cells #[x1, y1] 33)) (boxed4 x1 y1 x2 y2 x3 y3 w) := (((Below.refl _ _).alloc (by simp) _).alloc (by simp) _).alloc (by simp <;> omega) _
  have b2 : Below (w.heap.size + 2) ((w.alloc (.cells #[x1, y1] 33)).alloc (.cells #[x2, y2] 33)) (boxed4 x1 y1 x2 y2 x3 y3 w) := ((Below.refl _ _).alloc (by simp) _).alloc (by simp) _
  have b3 : Below (w.heap.size + 3) (((w.alloc (.cells #[x1, y1] 33)).alloc (.cells #[x2, y2] 33)).alloc (.cells #[x3, y3] 33)) (boxed4 x1 y1 x2 y2 x3 y3 w) := (Below.refl _ _).alloc (by simp) _
  exact ⟨h1.below b1 (by omega), h2.below b2 (by omega), h3.below b3 (by omega), h4⟩
/-- what Voted leaves -/
def VotePost (r : (List Int × List Int) × List Int × Int) (w : World) (e : Ending) (w' : World) : Prop :=
  ∃ A A' c c' D k, e = .returned (.tuple #[bankV A A' r.1.1.length r.1.2.length c c', .slice D r.2.1.length k, .int .i64 r.2.2]) ∧ IR w' w'.heap.size A r.1.1 ∧ IR w' w'.heap.size A' r.1.2 ∧ IR w' w'.heap.size D r.2.1 ∧ Below w.heap.size w w'
theorem votePost_none (F : Int) {w w' : World} (h : Below w.heap.size w w') : VotePost (([], []), [], F) w (.returned (.tuple #[.agg #[.slice none 0 0, .slice none 0 0], .slice none 0 0, .int .i64 F])) w' :=
  ⟨.none, .none, 0, 0, .none, 0, rfl, .inl rfl, .inl rfl, .inl rfl, h⟩
theorem OwnI.same {w w' : World} {base : Nat} {v : Value} {l : List Int} (h : OwnI w base v l) (hk : ∀ k, base ≤ k → k < w.heap.size → w'.heap[k]? = w.heap[k]?) : OwnI w' base v l := by
  refine ⟨h.1, ?_⟩
  rcases h.2 with e | ⟨g, cap, cur, e, hg, hh, r⟩
  · exact .inl e
  · exact .inr ⟨g, cap, cur, e, hg, (hk g hg (Array.getElem?_eq_some_iff.1 hh).1).trans hh, r⟩
theorem OwnI.other {w : World} {base p k : Nat} {v u : Value} {l : List Int} (h : OwnI w base v l) (hp : p < base) : OwnI (w.setCell ⟨p, k, none⟩ u) base v l :=
  h.same fun j hj _ => Below.heap_setCell w ⟨p, k, none⟩ u j (by show j ≠ p; omega)
theorem OwnI.drew {w : World} {base : Nat} {v : Value} {l : List Int} (h : OwnI w base v l) : OwnI w.drew base v l := h
/-- where the loop of Voted is -/
def VoteAt (B g cap : Nat) (s : List Nat × List Int) (v : Value) (w w' : World) : Prop :=
  RowAt w' g cap (ints s.1) ∧ OwnI w' B v s.2 ∧ Kept B g w w'
theorem vote_bits (x y z : Nat) (hx : x < 4194304) (hy : y < 4194304) (hz : z < 4194304) :
    bits .or .i64 (bits .or .i64 (bits .and .i64 (x : Int) (y : Int)) (bits .and .i64 (x : Int) (z : Int))) (bits .and .i64 (y : Int) (z : Int)) = ((voteB x y z : Nat) : Int) := by
  have h1 : x &&& y ≤ x := Nat.and_le_left
  have h2 : x &&& z ≤ x := Nat.and_le_left
  have h3 : y &&& z ≤ y := Nat.and_le_left
  have h4 : x &&& y ||| x &&& z < 2 ^ 22 := Nat.or_lt_two_pow (by omega) (by omega)
  rw [and64 x y (by omega) (by omega), and64 x z (by omega) (by omega), and64 y z (by omega) (by omega), or64 _ _ (by omega) (by omega), or64 _ _ (by omega) (by omega)]
  rfl
theorem diff_true {x y z : Nat} (h : diffB x y z = true) : x ≠ y ∨ x ≠ z := by
  unfold diffB at h
  by_cases h1 : x = y
  · by_cases h2 : x = z
    · simp [← h1, ← h2] at h
    · exact .inr h2
  · exact .inl h1
theorem diff_false {x y z : Nat} (h : diffB x y z = false) : x = y ∧ x = z := by
  unfold diffB at h
  simpa using h

set_option maxRecDepth 100000 in
set_option maxHeartbeats 2000000 in
theorem voted_any (A1 A1' A2 A2' A3 A3' : Option Addr) (c1 c1' c2 c2' c3 c3' : Nat) (a a' b b' d d' : List Int) (B : Nat) (w : World) (hB : B ≤ w.heap.size)
    (la : a.length ≤ 9223372036854775807) (la' : a'.length ≤ 9223372036854775807) (lb : b.length ≤ 9223372036854775807) (lb' : b'.length ≤ 9223372036854775807) (ld : d.length ≤ 9223372036854775807) (ld' : d'.length ≤ 9223372036854775807)
    (ha : IR w B A1 a) (ha' : IR w B A1' a') (hb : IR w B A2 b) (hb' : IR w B A2' b') (hd : IR w B A3 d) (hd' : IR w B A3' d') :
    Calls Try.prog 47 #[bankV A1 A1' a.length a'.length c1 c1', bankV A2 A2' b.length b'.length c2 c2', bankV A3 A3' d.length d'.length c3 c3'] w (VotePost (votedS a a' b b' d d') w) := by
  have HT := Lib.hid (fun (w1 : World) (h : Below w.heap.size w w1) => checkThree_any A1 A1' A2 A2' A3 A3' c1 c1' c2 c2' c3 c3' a a' b b' d d' B w1 (Nat.le_trans hB h.size) la la' lb lb' ld ld' (ha.below (h.mono hB)) (ha'.below (h.mono hB)) (hb.below (h.mono hB)) (hb'.below (h.mono hB)) (hd.below (h.mono hB)) (hd'.below (h.mono hB)))
  obtain ⟨R, hRe⟩ : ∃ R, R = votedS a a' b b' d d' := ⟨_, rfl⟩
  rw [← hRe]
  have HR : Hid (R = if threeS a a' b b' d d' = 0 then ((ints (voteT (nats a) (nats b) (nats d) a.length).1, a'), (voteT (nats a) (nats b) (nats d) a.length).2, 0) else (([], []), [], threeS a a' b b' d d')) := Lib.hid hRe
  clear hRe
  have hpr := fun q => three_right (a := a) (a' := a') (b := b) (b' := b') (c := d) (c' := d') q
  have HCL := Lib.hid (fun (w1 : World) (h : Below w.heap.size w w1) (hr : Right a a') => cloned_any A1 A1' c1 c1' a a' B w1 (Nat.le_trans hB h.size) hr (ha.below (h.mono hB)) (ha'.below (h.mono hB)))
  unfold bankV at HT HCL ⊢
  obtain ⟨w0, hw0⟩ : ∃ w0, boxed4 (.slice A1 a.length c1) (.slice A1' a'.length c1') (.slice A2 b.length c2) (.slice A2' b'.length c2') (.slice A3 d.length c3) (.slice A3' d'.length c3') w = w0 := ⟨_, rfl⟩
  have b0 : Below w.heap.size w w0 := by rw [← hw0]; exact boxed4_below _ _ _ _ _ _ _
  have z0 : w0.heap.size = w.heap.size + 4 := by rw [← hw0]; exact boxed4_size _ _ _ _ _ _ _
  obtain ⟨h1, h2, h3, h4⟩ : HeldB w0 w.heap.size (.slice A1 a.length c1) (.slice A1' a'.length c1') ∧ HeldB w0 (w.heap.size + 1) (.slice A2 b.length c2) (.slice A2' b'.length c2') ∧ HeldB w0 (w.heap.size + 2) (.slice A3 d.length c3) (.slice A3' d'.length c3') ∧ HeldB w0 (w.heap.size + 3) (.slice none 0 0) (.slice none 0 0) := by rw [← hw0]; exact boxed4_held _ _ _ _ _ _ _
  obtain ⟨e1, e1'⟩ := h1.cells
  obtain ⟨e2, e2'⟩ := h2.cells
  obtain ⟨e3, e3'⟩ := h3.cells
  unfold boxed4 at hw0
  have HT' := Lib.hid (HT.out w0 b0)
  have HW0 := Lib.hid hw0
  clear hw0 HT
  generalize threeS a a' b b' d d' = P at *
  by_cases hP : P = 0
  · subst hP
    obtain ⟨r1, r2, r3, hl1, hl2⟩ := hpr rfl
    rw [if_pos rfl] at HR
    have hfew := r1.few
    have hpos := r1.pos
    have HSAME := Lib.hid r1.same
    have HRIGHT := Lib.hid r1
    have ia := right_ints r1
    have ib := right_ints r2
    have id' := right_ints r3
    have la2 := nats_len a
    have lb2 := nats_len b
    have ld2 := nats_len d
    have HCa : Hid (∀ k (h : k < (nats a).length), (nats a)[k] < 4194304) := Lib.hid (right_ok r1 0 hpos []).codes
    have HCb : Hid (∀ k (h : k < (nats b).length), (nats b)[k] < 4194304) := Lib.hid (right_ok r2 0 (by omega) []).codes
    have HCd : Hid (∀ k (h : k < (nats d).length), (nats d)[k] < 4194304) := Lib.hid (right_ok r3 0 (by omega) []).codes
    rw [← ia] at ha
    rw [← ib] at hb
    rw [← id'] at hd
    have HL1 := Lib.hid hl1
    have HL2 := Lib.hid hl2
    have HIA := Lib.hid ia
    clear hpr r1 r2 r3 ib id' hl1 hl2 ia
    go_enter Try.func47, Try.ntmps47
    go_upto_region 1 with fail
    rw [HW0.out]
    go_wp2_with fail
    refine HT'.out.mono ?_
    rintro e w1 ⟨rfl, hb1⟩
    clear e1 e1' e2 e2' e3 e3' HW0 HT'
    obtain ⟨e1, e1'⟩ := (h1.below hb1 (by omega)).cells
    have bx1 := b0.trans (hb1.mono (by omega))
    go_wp2_with fail
    refine (HCL.out w1 bx1 HRIGHT.out).mono ?_
    rintro e w2 ⟨v, rfl, g, cap, g', cap', rfl, hg, hgg, hrow, hrow', hb3⟩
    unfold bankV
    have hs1 := hb1.size
    have hs2 := bx1.size
    have hs3 := hb3.size
    have g2 := hrow.lt
    have g2' := hrow'.lt
    generalize hw9 : w2.alloc (.cells #[.slice (some ⟨g, 0, none⟩) a.length cap, .slice (some ⟨g', 0, none⟩) a'.length cap'] 33) = w9
    have b9 : Below w2.heap.size w2 w9 := by rw [← hw9]; exact box_below _ _
    have z9 : w9.heap.size = w2.heap.size + 1 := by rw [← hw9]; simp
    have h9 : HeldB w9 w2.heap.size (.slice (some ⟨g, 0, none⟩) a.length cap) (.slice (some ⟨g', 0, none⟩) a'.length cap') := by rw [← hw9]; exact HeldB.new w2 _ _
    have r9 := hrow.below b9 g2
    have r9' := hrow'.below b9 g2'
    have b19 : Below w1.heap.size w1 w9 := hb3.trans (b9.mono hs3)
    have b09 : Below w0.heap.size w0 w9 := hb1.trans (b19.mono hs1)
    have k1 := h1.below b09 (by omega)
    have k2 := h2.below b09 (by omega)
    have k3 := h3.below b09 (by omega)
    have k4 := h4.below b09 (by omega)
    have bx9 := b0.trans (b09.mono (by omega))
    have ha9 := (ha.lift hB).below bx9
    have hb9 := (hb.lift hB).below bx9
    have hd9 := (hd.lift hB).below bx9
    have hat : VoteAt w9.heap.size g cap (voteT (nats a) (nats b) (nats d) 0) (.slice none 0 0) w9 w9 := ⟨by show RowAt w9 g cap (ints (nats a)); rw [HIA.out]; exact r9, OwnI.nil _ _, Kept.refl _ _ _⟩
    clear e1 e1'
    obtain ⟨e1, e1'⟩ := k1.cells
    go_wp2_with fail
    clear hw9 e1 e1'
    go_loopw [11, 12, 13, 14, 15, 29] (fun v _ _ _ _ i wr => ∃ k : Nat, k ≤ a.length ∧ i = .int .i64 (k : Int) ∧ VoteAt w9.heap.size g cap (voteT (nats a) (nats b) (nats d) k) v w9 wr) (fun _ _ _ _ _ i _ => a.length - (intOf i).toNat)
    case atStart => exact ⟨0, Nat.zero_le _, rfl, hat⟩
    case round =>
      obtain ⟨k, hk, rfl, hR, hO, hK⟩ := hrel
      by_cases hlt : k < a.length
      · have hlen := vote_len (nats a) (nats b) (nats d) k
        have hDl := vote_few (nats a) (nats b) (nats d) k
        have hka : k < (nats a).length := by omega
        have hkb : k < (nats b).length := by have := HL1.out; omega
        have hkd : k < (nats d).length := by have := HL2.out; omega
        have bK := (hK.to (by omega)).mono (show w.heap.size ≤ g by omega)
        obtain ⟨ad1, hA1, hd1, x1⟩ := (ha9.below bK).get k (by rw [ints_len]; exact hka)
        obtain ⟨ad2, hA2, hd2, x2⟩ := (hb9.below bK).get k (by rw [ints_len]; exact hkb)
        obtain ⟨ad3, hA3, hd3, x3⟩ := (hd9.below bK).get k (by rw [ints_len]; exact hkd)
        rw [ints_get _ k hka] at x1
        rw [ints_get _ k hkb] at x2
        rw [ints_get _ k hkd] at x3
        have gx : (nats a).getD k 0 = (nats a)[k] := by simp [List.getD, hka]
        have gy : (nats b).getD k 0 = (nats b)[k] := by simp [List.getD, hkb]
        have gz : (nats d).getD k 0 = (nats d)[k] := by simp [List.getD, hkd]
        have HS := Lib.hid (show voteT (nats a) (nats b) (nats d) (k + 1) = ((voteT (nats a) (nats b) (nats d) k).1.set k (voteB ((nats a).getD k 0) ((nats b).getD k 0) ((nats d).getD k 0)), if diffB ((nats a).getD k 0) ((nats b).getD k 0) ((nats d).getD k 0) = true then (voteT (nats a) (nats b) (nats d) k).2 ++ [(k : Int)] else (voteT (nats a) (nats b) (nats d) k).2) from rfl)
        rw [gx, gy, gz] at HS
        have hxl := HCa.out k hka
        have hyl := HCb.out k hkb
        have hzl := HCd.out k hkd
        have HBIT := Lib.hid (vote_bits _ _ _ hxl hyl hzl)
        generalize voteT (nats a) (nats b) (nats d) k = q at *
        obtain ⟨C, D⟩ := q
        simp only at hR hO hlen hDl HS
        generalize (nats a)[k] = x at *
        generalize (nats b)[k] = y at *
        generalize (nats d)[k] = z at *
        have hj2 := hK.heldB k2 (by omega) (by omega)
        have hj3 := hK.heldB k3 (by omega) (by omega)
        have hj9 := hK.heldB h9 (by omega) (by omega)
        obtain ⟨e2, -⟩ := hj2.cells
        obtain ⟨e3, -⟩ := hj3.cells
        obtain ⟨e9, -⟩ := hj9.cells
        have hkC : k < (ints C).length := by rw [ints_len]; omega
        have m1 := hR.cell k hkC
        have m2 := hR.free k
        have hk0 : (0 : Int) ≤ (k : Int) := Int.natCast_nonneg _
        have hk1 : (k : Int) < (a.length : Int) := by omega
        have hk2 : (k : Int) < (b.length : Int) := by have := HL1.out; omega
        have hk3 : (k : Int) < (d.length : Int) := by have := HL2.out; omega
        have hNb : k < b.length := by omega
        have hNd : k < d.length := by omega
        subst hA1 hA2 hA3
        have hR5 := hR.drew
        have hO5 := hO.drew
        have hK5 := hK.drew
        have HVV := Lib.hid (show ((voteB x y z : Nat) : Int) = ((voteB x y z : Nat) : Int) from rfl)
        clear gx gy gz hka hkb hkd HCa HCb HCd hxl hyl hzl
        go_wp2_with fail
        go_region
        have n9 : wr.drew.cell? ⟨w2.heap.size, 0, none⟩ = some (.slice (some ⟨g, 0, none⟩) a.length cap) := e9
        have n1 : wr.drew.frozen? ⟨g, k, none⟩ = false := m2
        have n2 : wr.drew.cell? ⟨g, k, none⟩ = some (.int .i64 (ints C)[k]) := m1
        clear e2 e3 e9 m1 m2 x1 x2 x3 hR hO hK hj2 hj3 hj9 bK
        generalize wr.drew = w5 at *
        go_upto_region 11 with fail
        rw [HBIT.out]
        have hR6 := hR5.set k ((voteB x y z : Nat) : Int)
        rw [ints_set] at hR6
        have hO6 := hO5.other (p := g) (k := k) (u := .int .i64 ((voteB x y z : Nat) : Int)) (by omega)
        have hK6 := hK5.setG (k := k) (u := .int .i64 ((voteB x y z : Nat) : Int))
        clear n9 n1 n2 hR5 hO5 hK5 HVV
        generalize w5.setCell ⟨g, k, none⟩ (.int .i64 ((voteB x y z : Nat) : Int)) = w6 at *
        cases hdf : diffB x y z
        · have HS2 : Hid (voteT (nats a) (nats b) (nats d) (k + 1) = (C.set k (voteB x y z), D)) := Lib.hid (by have := HS.out; rw [hdf] at this; simpa using this)
          obtain ⟨u1, u2⟩ := diff_false hdf
          clear HS hdf HBIT
          generalize voteB x y z = V at *
          subst u1 u2
          go_wp2_with fail
          refine ⟨⟨k + 1, by omega, by go_num, ?_⟩, by simp [intOf]; omega⟩
          rw [HS2.out]
          exact ⟨hR6, hO6, hK6⟩
        · have HS2 : Hid (voteT (nats a) (nats b) (nats d) (k + 1) = (C.set k (voteB x y z), D ++ [(k : Int)])) := Lib.hid (by have := HS.out; rw [hdf, if_pos rfl] at this; exact this)
          have hdd := diff_true hdf
          clear HS hdf HBIT
          generalize voteB x y z = V at *
          by_cases hxy : x = y
          · have hxz : x ≠ z := by omega
            subst hxy
            have t2 : ((x : Int) != (z : Int)) = true := by simp; omega
            clear hdd hxz
            have hsz6 := hK6.size
            have HO1 := Lib.hid (fun q (hq : Value.ownBlock u11 = some q) => (World.ownsRow.lt hO6 q hq).1)
            have HBW := Lib.hid (fun o => (Below.refl w9.heap.size w6).alloc (by omega) o)
            go_wp2_with (first | (at_builtin; refine wpList_app _ rfl (.tmp 67) (.tmp 69) 31 3 1 8 rfl elemI w9.heap.size u11 D.length (D.map iv) rfl (World.ownsRow.alloc hO6 _) (w6.heap.size + 1) _ 1 1 ([(k : Int)].map iv) rfl rfl (Cells.fresh w6 _ 3 _ _ rfl) (iv_one _) (by unfold maxLen; omega) (by omega) (by simp; omega) ?_; intro v3 w7 hown3 hgrow3 hat3; have hb7 := (HBW.out _).grown hgrow3 (by simp; omega) HO1.out) | fail)
            have ho3 := OwnI.of (a := D) (b := [(k : Int)]) hown3 rfl
            refine ⟨⟨k + 1, by omega, by go_num, ?_⟩, by simp [intOf]; omega⟩
            rw [HS2.out]
            exact ⟨hR6.below hb7 (by omega), ho3, hK6.trans (Kept.of hb7)⟩
          · have t1 : ((x : Int) != (y : Int)) = true := by simp; omega
            clear hdd hxy
            have hsz6 := hK6.size
            have HO1 := Lib.hid (fun q (hq : Value.ownBlock u11 = some q) => (World.ownsRow.lt hO6 q hq).1)
            have HBW := Lib.hid (fun o => (Below.refl w9.heap.size w6).alloc (by omega) o)
            go_wp2_with (first | (at_builtin; refine wpList_app _ rfl (.tmp 67) (.tmp 69) 31 3 1 8 rfl elemI w9.heap.size u11 D.length (D.map iv) rfl (World.ownsRow.alloc hO6 _) (w6.heap.size + 1) _ 1 1 ([(k : Int)].map iv) rfl rfl (Cells.fresh w6 _ 3 _ _ rfl) (iv_one _) (by unfold maxLen; omega) (by omega) (by simp; omega) ?_; intro v3 w7 hown3 hgrow3 hat3; have hb7 := (HBW.out _).grown hgrow3 (by simp; omega) HO1.out) | fail)
            have ho3 := OwnI.of (a := D) (b := [(k : Int)]) hown3 rfl
            refine ⟨⟨k + 1, by omega, by go_num, ?_⟩, by simp [intOf]; omega⟩
            rw [HS2.out]
            exact ⟨hR6.below hb7 (by omega), ho3, hK6.trans (Kept.of hb7)⟩
      · obtain rfl : k = a.length := by omega
        have hlen := vote_len (nats a) (nats b) (nats d) a.length
        rw [la2] at hlen
        generalize voteT (nats a) (nats b) (nats d) a.length = q at *
        obtain ⟨C, D⟩ := q
        simp only at hR hO hlen HR
        obtain ⟨Dd, ck, rfl, hID⟩ := hO.form
        obtain ⟨i1, i2⟩ := (hK.heldB h9 (by omega) (by omega)).cells
        have hx4 := hK.heldB k4 (by omega) (by omega)
        obtain ⟨j1, j2⟩ := hx4.cells
        have j3 := hx4.free 0
        have j4 := hx4.free 1
        have hrs := hK.row r9' (by omega) (by omega)
        have bw : Below w.heap.size w wr := bx9.trans ((hK.to (by omega)).mono (by omega))
        have hO7 := (hO.other (p := w.heap.size + 3) (k := 0) (u := .slice (some ⟨g, 0, .none⟩) a.length cap) (by omega)).other (p := w.heap.size + 3) (k := 1) (u := .slice (some ⟨g', 0, .none⟩) a'.length cap') (by omega)
        go_wp2_with fail
        refine bodyPost_ret (v := .tuple #[.agg #[.slice (some ⟨g, 0, .none⟩) a.length cap, .slice (some ⟨g', 0, .none⟩) a'.length cap'], .slice Dd D.length ck, .int .i64 0]) (by simp [results, Try.results47, go_sem, j1, j2]) rfl ?_
        rw [HR.out]
        obtain ⟨A9, c9, hv9, hI9⟩ := hO7.form
        injection hv9 with e91 e92 e93
        subst e91
        refine ⟨some ⟨g, 0, .none⟩, some ⟨g', 0, .none⟩, cap, cap', Dd, ck, by simp [bankV, ints_len, hlen], ?_, ?_, hI9, ?_⟩
        · exact (((hR.other (by omega)).other (by omega)).ir).lift (Nat.le_refl _)
        · exact (((hrs.other (by omega)).other (by omega)).ir).lift (Nat.le_refl _)
        · exact (bw.setCell (p := ⟨w.heap.size + 3, 0, .none⟩) (by simp) _).setCell (p := ⟨w.heap.size + 3, 1, .none⟩) (by simp) _
  · rw [if_neg hP] at HR
    have hne : (P != 0) = true := by simpa using hP
    clear hpr HCL
    go_enter Try.func47, Try.ntmps47
    go_upto_region 1 with fail
    rw [HW0.out]
    go_wp2_with fail
    refine HT'.out.mono ?_
    rintro e w1 ⟨rfl, hb1⟩
    clear e1 e1' e2 e2' e3 e3' HW0 HT'
    have hx4 := h4.below hb1 (by omega)
    obtain ⟨j1, j2⟩ := hx4.cells
    have j3 := hx4.free 0
    have j4 := hx4.free 1
    have bx1 := b0.trans (hb1.mono (by omega))
    go_wp2_with fail
    refine bodyPost_ret (v := .tuple #[.agg #[.slice .none 0 0, .slice .none 0 0], .slice .none 0 0, .int .i64 P]) (by simp [results, Try.results47, go_sem, j1, j2]) rfl ?_
    rw [HR.out]
    exact votePost_none _ ((bx1.setCell (p := ⟨w.heap.size + 3, 0, .none⟩) (by simp) _).setCell (p := ⟨w.heap.size + 3, 1, .none⟩) (by simp) _)
end Go.Proofs.Ytidddoldkedicaa
