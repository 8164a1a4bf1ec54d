/- the walk of the reference's play. -/
import Derived.Test.YteelepjhlhifhaaRScrub
import Derived.Test.YteelepjhlhifhaaRounds
import Derived.Test.YteelepjhlhifhaaRFlippedB
namespace Go.Proofs.Yteelepjhlhifhaa
open Go.RowKit
attribute [local go_sem] setCell_draws alloc_draws

/-- what was done before stands before what is done -/
theorem scrub_split (t : Nat) (C : List Nat) (x : Nat) (D : List Scr) : ∀ k, (scrubT t k ⟨C, x, D⟩).C = (scrubT t k ⟨C, x, []⟩).C ∧ (scrubT t k ⟨C, x, D⟩).next = (scrubT t k ⟨C, x, []⟩).next ∧ (scrubT t k ⟨C, x, D⟩).done = D ++ (scrubT t k ⟨C, x, []⟩).done
  | 0 => ⟨rfl, rfl, by simp [scrubT]⟩
  | k + 1 => by
    obtain ⟨h1, h2, h3⟩ := scrub_split t C x D k
    simp only [scrubT, stepS, h1, h2, h3]
    refine ⟨trivial, trivial, ?_⟩
    split
    · rfl
    · rw [List.append_assoc]
theorem flipU_here {u : Int} {C : List Nat} {f : List Flp} {k : Nat} (h : ∀ (hk : k < f.length), ¬ f[k].t ≤ u) : flipU u C (f.drop k) = (C, f.drop k) := by
  by_cases hk : k < f.length
  · rw [List.drop_eq_getElem_cons hk]
    simp [flipU, h hk]
  · rw [List.drop_eq_nil_of_le (by omega)]
    rfl
theorem flipU_next {u : Int} {C : List Nat} {f : List Flp} {k : Nat} (hk : k < f.length) (h : f[k].t ≤ u) : flipU u C (f.drop k) = flipU u (flipC C f[k]) (f.drop (k + 1)) := by
  rw [List.drop_eq_getElem_cons hk]
  simp [flipU, h]
theorem OwnS.loose {w : World} {base : Nat} {v : Value} {l : List Scr} (h : OwnS w base v l) : ∃ A c, v = .slice A l.length c ∧ SR w w.heap.size A l := by
  obtain ⟨A, c, e, h1, -⟩ := h.form
  exact ⟨A, c, e, h1⟩
set_option maxRecDepth 100000 in
set_option maxHeartbeats 4000000 in
theorem play_any (A A' Af : Option Addr) (c c' cf : Nat) (l l' : List Int) (E M U : Nat) (f : List Flp) (B : Nat) (w : World) (hB : B ≤ w.heap.size) (h : IR w B A l) (h' : IR w B A' l') (hf : FR w B Af f)
    (hr : Right l l') (hE : 1 ≤ E ∧ E ≤ 1000000000001) (hM : 1 ≤ M ∧ M ≤ 5000) (hU : U ≤ 1000000000000) (hwk : U / E * M ≤ 1000000) (hf2 : f.length ≤ 2000) (hok : ∀ x ∈ f, x.ok l.length) :
    Calls Try.prog 82 #[bankV A A' l.length l'.length c c', .agg #[.int .i64 (E : Int), .int .i64 (M : Int)], .slice Af f.length cf, .int .i64 (U : Int)] w fun e w' =>
      ∃ g cap g' cap' D k, e = .returned (.tuple #[bankV (some ⟨g, 0, none⟩) (some ⟨g', 0, none⟩) l.length l'.length cap cap', .slice D (runEnd E M U ⟨nats l, 0, []⟩ f).done.length k]) ∧ RowAt w' g cap (ints (runEnd E M U ⟨nats l, 0, []⟩ f).C) ∧ RowAt w' g' cap' l' ∧
        SR w' w'.heap.size D (runEnd E M U ⟨nats l, 0, []⟩ f).done ∧ w.heap.size ≤ g ∧ w.heap.size ≤ g' ∧ (∀ ad, D = some ad → w.heap.size ≤ ad.block) ∧ Below w.heap.size w w' := by
  have HCL := Lib.hid (fun (w1 : World) (hb : Below w.heap.size w w1) => rcloned_any A A' c c' l l' B w1 (Nat.le_trans hB hb.size) hr (h.below (hb.mono hB)) (h'.below (hb.mono hB)))
  unfold bankV at HCL ⊢
  obtain ⟨w0, hw0⟩ : ∃ w0, ((w.alloc (.cells #[.slice A l.length c, .slice A' l'.length c'] 52)).alloc (.cells #[.int .i64 (E : Int), .int .i64 (M : Int)] 68)).alloc (.cells #[.slice none 0 0, .slice none 0 0] 52) = w0 := ⟨_, rfl⟩
  obtain ⟨b0, z0, h0, hx0, r0⟩ := boxes3_held _ _ _ _ w w0 hw0
  have HW0 := Lib.hid hw0
  clear hw0
  obtain ⟨p1, p2⟩ := h0.cells
  have hfew := hr.few
  have HRIGHT := Lib.hid hr
  have HOK := Lib.hid (right_ok hr 0 hr.pos [])
  have HIN := Lib.hid (right_ints hr)
  have HOKF := Lib.hid hok
  have HRD := Lib.hid (fun j => run_done E M ⟨nats l, 0, []⟩ f j)
  have HRO := Lib.hid (fun j => run_ok (every := E) (many := M) HOK.out hok j)
  have HEND := Lib.hid (show runEnd E M U ⟨nats l, 0, []⟩ f = ⟨(flipU (U : Int) (runR E M ⟨nats l, 0, []⟩ f (U / E)).1.C (runR E M ⟨nats l, 0, []⟩ f (U / E)).2).1, (runR E M ⟨nats l, 0, []⟩ f (U / E)).1.next, (runR E M ⟨nats l, 0, []⟩ f (U / E)).1.done⟩ from rfl)
  have HC1 := Lib.hid (HCL.out w0 b0)
  clear hr hok HCL
  generalize runEnd E M U ⟨nats l, 0, []⟩ f = RE at *
  go_enter Try.func82, Try.ntmps82
  go_upto_region 1 with fail
  rw [HW0.out]
  go_wp2_with fail
  refine HC1.out.mono ?_
  rintro e' w2 ⟨v, rfl, g, cap, g', cap', rfl, hg, hgg, hrow, hrow', hb3⟩
  unfold bankV
  clear HW0 p1 p2 HC1
  have hs3 := hb3.size
  have g2 := hrow.lt
  have g2' := hrow'.lt
  obtain ⟨wq, hwq⟩ : ∃ wq, w2.alloc (.cells #[.slice (some ⟨g, 0, none⟩) l.length cap, .slice (some ⟨g', 0, none⟩) l'.length cap'] 52) = wq := ⟨_, rfl⟩
  have b9 : Below w2.heap.size w2 wq := by rw [← hwq]; exact box_below _ _
  have z9 : wq.heap.size = w2.heap.size + 1 := by rw [← hwq]; simp
  have h9 : HeldB wq w2.heap.size (.slice (some ⟨g, 0, none⟩) l.length cap) (.slice (some ⟨g', 0, none⟩) l'.length cap') := by rw [← hwq]; exact HeldB.new w2 _ _
  have r9 := hrow.below b9 g2
  have r9' := hrow'.below b9 g2'
  have b09 : Below w0.heap.size w0 wq := hb3.trans (b9.mono hs3)
  have q9 := r0.below b09 (by omega)
  have hx9 := (b09.block (w.heap.size + 1) (by omega)).trans hx0
  have bx9 := b0.trans (b09.mono (by omega))
  have hfq := hf.below (bx9.mono hB)
  have HWQ := Lib.hid hwq
  obtain ⟨p3, p4⟩ := rcells (w := wq) rfl hx9
  clear hwq
  go_upto_region 4 with fail
  rw [HWQ.out]
  go_wp2_with fail
  clear HWQ p3 p4
  have hat : RowAt wq g cap (ints (nats l)) ∧ OwnS wq wq.heap.size (.slice none 0 0) [] ∧ Kept wq.heap.size g wq wq := ⟨by rw [HIN.out]; exact r9, OwnS.nil _ _, Kept.refl _ _ _⟩
  go_loopw [11, 12, 13, 14] (fun v x k i wr => ∃ (j kk : Nat), j ≤ U / E ∧ i = .int .i64 ((E * (j + 1) : Nat) : Int) ∧ kk ≤ f.length ∧ k = .int .i64 (kk : Int) ∧ (runR E M ⟨nats l, 0, []⟩ f j).2 = f.drop kk ∧ x = .int .i64 ((runR E M ⟨nats l, 0, []⟩ f j).1.next : Int) ∧
      RowAt wr g cap (ints (runR E M ⟨nats l, 0, []⟩ f j).1.C) ∧ OwnS wr wq.heap.size v (runR E M ⟨nats l, 0, []⟩ f j).1.done ∧ Kept wq.heap.size g wq wr) (fun _ _ _ i _ => U + E + 1 - (intOf i).toNat)
  case atStart => exact ⟨0, 0, Nat.zero_le _, by simp, Nat.zero_le _, rfl, rfl, rfl, hat.1, hat.2.1, hat.2.2⟩
  case round =>
    obtain ⟨j, kk, hj, rfl, hkk, rfl, hrest, rfl, hR, hO, hK⟩ := hrel
    obtain ⟨hok1, -⟩ := HRO.out j
    have hdn := HRD.out j
    have HS := Lib.hid (show runR E M ⟨nats l, 0, []⟩ f (j + 1) = (scrubT (E * (j + 1)) M ⟨(flipU ((E * (j + 1) : Nat) : Int) (runR E M ⟨nats l, 0, []⟩ f j).1.C (runR E M ⟨nats l, 0, []⟩ f j).2).1, (runR E M ⟨nats l, 0, []⟩ f j).1.next, (runR E M ⟨nats l, 0, []⟩ f j).1.done⟩, (flipU ((E * (j + 1) : Nat) : Int) (runR E M ⟨nats l, 0, []⟩ f j).1.C (runR E M ⟨nats l, 0, []⟩ f j).2).2) from rfl)
    have hmj : M * j ≤ 1000000 := by
      have h1 : M * j ≤ M * (U / E) := Nat.mul_le_mul_left _ hj
      rw [Nat.mul_comm M (U / E)] at h1
      omega
    have HJE : Hid (U / E = j → RE = ⟨(flipU (U : Int) (runR E M ⟨nats l, 0, []⟩ f j).1.C (runR E M ⟨nats l, 0, []⟩ f j).2).1, (runR E M ⟨nats l, 0, []⟩ f j).1.next, (runR E M ⟨nats l, 0, []⟩ f j).1.done⟩) := Lib.hid (fun q => by rw [HEND.out, q])
    generalize hat0 : E * (j + 1) = at' at *
    have hat2 : E * (j + 1 + 1) = at' + E := by rw [Nat.mul_succ, hat0]
    have hdiv : at' ≤ U → j + 1 ≤ U / E := fun q => by
      rw [← hat0] at q
      exact (Nat.le_div_iff_mul_le (by omega)).2 (by rw [Nat.mul_comm]; exact q)
    have hdiv2 : ¬ at' ≤ U → U / E = j := fun q => by
      have h1 : U / E < j + 1 := (Nat.div_lt_iff_lt_mul (by omega)).2 (by rw [Nat.mul_comm, hat0]; omega)
      omega
    have hatl : at' ≤ U + E := by
      have h1 : E * j ≤ E * (U / E) := Nat.mul_le_mul_left _ hj
      have h2 : E * (U / E) ≤ U := Nat.mul_div_le U E
      rw [Nat.mul_succ] at hat0
      omega
    rw [hrest] at HS HJE
    clear hrest
    generalize (runR E M ⟨nats l, 0, []⟩ f j).1 = q at *
    obtain ⟨Cj, xj, Dj⟩ := q
    simp only at hR hO hok1 hdn HS HJE
    have hDl : Dj.length ≤ 1000000 := by simp only [List.length_nil] at hdn; omega
    have hn0 : ((l.length : Int) == 0) = false := beq_eq_false_iff_ne.2 (by have := HRIGHT.out.pos; omega)
    have hlp : (0 : Int) < (l.length : Int) := by have := HRIGHT.out.pos; omega
    by_cases hle : at' ≤ U
    · have HJ1 := Lib.hid (hdiv hle)
      have HAT := Lib.hid hat2
      clear hdiv hdiv2 HJE hmj hdn hat0 hat2 HEND HRD HRO
      go_wp2_with fail
      go_loopw [13] (fun k wr' => ∃ (k1 : Nat) (C1 : List Nat), k1 ≤ f.length ∧ k = .int .i64 (k1 : Int) ∧ (⟨C1, xj, Dj⟩ : St).ok l.length ∧ flipU (at' : Int) C1 (f.drop k1) = flipU (at' : Int) Cj (f.drop kk) ∧ RowAt wr' g cap (ints C1) ∧ OwnS wr' wq.heap.size u11 Dj ∧ Kept wq.heap.size g wq wr') (fun k _ => f.length - (intOf k).toNat)
      case atStart => exact ⟨kk, Cj, hkk, rfl, hok1, rfl, hR, hO, hK⟩
      case round =>
        obtain ⟨k1, C1, hk1, rfl, hokc, hfu, hR1, hO1, hK1⟩ := hrel
        have hK1s := hK1.size
        have bK := (hK1.to (by omega)).mono (show B ≤ g by omega)
        have hfr := hfq.below bK
        have hj9 := hK1.heldB h9 (by omega) (by omega)
        obtain ⟨i1, i2⟩ := hj9.cells
        obtain ⟨i3, i4⟩ := rcells (hK1.block (w.heap.size + 1) (by omega) (by omega)) hx9
        by_cases hlt : k1 < f.length
        · obtain ⟨ad, hA, had, d0, d1, d2⟩ := hfr.get k1 hlt
          have hyo := HOKF.out f[k1] (List.getElem_mem hlt)
          have hk0 : (0 : Int) ≤ (k1 : Int) := Int.natCast_nonneg _
          have hk1' : (k1 : Int) < (f.length : Int) := by omega
          by_cases ht : f[k1].t ≤ (at' : Int)
          · have HFU := Lib.hid ((flipU_next hlt ht).symm.trans hfu)
            have HOK2 := Lib.hid (flipC_ok hokc hyo)
            obtain ⟨-, hyp, hyb⟩ := hyo
            obtain ⟨p, hp⟩ : ∃ p : Nat, f[k1].p = (p : Int) := ⟨f[k1].p.toNat, by omega⟩
            obtain ⟨b, hb⟩ : ∃ b : Nat, f[k1].b = (b : Int) + 1 := ⟨(f[k1].b - 1).toNat, by omega⟩
            have hlen := hokc.len
            simp only at hlen
            have hpl : p < C1.length := by omega
            have hcl := hokc.codes p hpl
            simp only at hcl
            have hcell := hR1.cell p (by rw [ints_len]; exact hpl)
            rw [ints_get C1 p hpl] at hcell
            have hfree := hR1.free p
            have hb21 : b < 22 := by omega
            have HC2 : Hid (C1.set p (C1[p] ^^^ 2 ^ b) = flipC C1 f[k1]) := Lib.hid (by
              unfold flipC
              rw [hp, hb, Int.toNat_natCast, show ((b : Int) + 1).toNat - 1 = b by omega]
              simp [List.getD, hpl])
            rw [hp] at d1
            rw [hb] at d2
            have hp0 : (0 : Int) ≤ (p : Int) := Int.natCast_nonneg _
            have hp1 : (p : Int) < (l.length : Int) := by omega
            generalize C1[p] = q at *
            have hwp := wpow b (by omega)
            rw [show ((2 ^ b : Nat) : Int) = (2 : Int) ^ b by simp] at hwp
            have hxu := xor_up q b hcl hb21
            generalize q ^^^ 2 ^ b = V at *
            generalize hy : f[k1] = y at *
            obtain ⟨yt, yp, yb⟩ := y
            simp only at ht d0
            subst hA
            clear hfu hokc hyp hyb hp hb hy hR hO hK i3 i4
            go_wp2_with fail
            go_region
            go_wp2_with fail
            have hRn := (hR1.set p (V : Int)).drew
            rw [ints_set, HC2.out] at hRn
            exact ⟨⟨k1 + 1, _, by omega, by go_num, HOK2.out, HFU.out, hRn, (hO1.other (p := g) (k := p) (u := .int .i64 (V : Int)) (by omega)).drew, (hK1.setG (k := p) (u := .int .i64 (V : Int))).drew⟩, by simp [intOf]; omega⟩
          · have HFU := Lib.hid (hfu.symm.trans (flipU_here (fun _ => ht)))
            generalize f[k1].t = yt at *
            subst hA
            clear hfu hyo hR hO hK d1 d2
            have HSC := Lib.hid (rscrub_any g l.length cap g' cap' l'.length at' M ⟨C1, xj, []⟩ wr ⟨hokc.len, hokc.next, hokc.codes⟩ rfl hfew (by omega) hR1)
            have HSP := Lib.hid (scrub_split at' C1 xj Dj M)
            have HNX := Lib.hid (scrub_next (t := at') (show (⟨C1, xj, []⟩ : St).ok l.length from ⟨hokc.len, hokc.next, hokc.codes⟩) M)
            have hxj := hokc.next
            have HDD := Lib.hid (scrub_done at' ⟨C1, xj, []⟩ M)
            have HS2 : Hid (runR E M ⟨nats l, 0, []⟩ f (j + 1) = (scrubT at' M ⟨C1, xj, Dj⟩, f.drop k1)) := Lib.hid (by have h := HS.out; rw [HFU.out] at h; exact h)
            have HO1 := Lib.hid (fun q (hq : Value.ownBlock u11 = some q) => (World.ownsRow.lt hO1 q hq).1)
            unfold bankV at HSC
            clear hokc HFU HS
            go_wp2_with fail
            refine HSC.out.mono ?_
            rintro e' w3 ⟨v3, rfl, hR3, hO3, hK3⟩
            generalize scrubT at' M ⟨C1, xj, Dj⟩ = sD at *
            generalize scrubT at' M ⟨C1, xj, []⟩ = sN at *
            obtain ⟨CN, xN, DN⟩ := sN
            obtain ⟨CD, xD, DD⟩ := sD
            simp only at hR3 hO3 HSP HNX HDD
            obtain ⟨hs1, hs2, hs4⟩ := HSP.out
            subst hs1 hs2
            have HDN := Lib.hid hs4
            obtain ⟨A3, c3, rfl, hSR3⟩ := hO3.loose
            have hdl : DN.length ≤ 5000 := by have := HDD.out; simp only [List.length_nil] at this; omega
            have hz3 := hK3.size
            have hO3' : OwnS w3 wq.heap.size u11 Dj := hO1.same fun q h1 h2 => hK3.block q h2 (by omega)
            have hj3 := hK3.heldB hj9 (by omega) (by omega)
            have hx3 := (hK3.block (w.heap.size + 1) (by omega) (by omega)).trans (hK1.block (w.heap.size + 1) (by omega) (by omega))
            have HGR := Lib.hid (fun w4 (hg4 : w3.grownBy w4 (Value.ownBlock u11)) => (Below.refl wq.heap.size w3).grown hg4 (by omega) HO1.out)
            clear hs4 HSP i1 i2 i3 i4 hO3
            go_wp2_with (first | (at_builtin; refine wpList_app _ rfl (.tmp 59) (.tmp 65) 55 123 4 32 rfl elemS wq.heap.size u11 Dj.length (scells Dj) rfl hO3' w3.heap.size A3 DN.length c3 (scells DN) rfl (scells_len DN) hSR3 (scells_one _) (by unfold maxLen; omega) (by omega) (by omega) ?_; intro v4 w4 hown4 hgrow4 hat4; have hb4 := HGR.out w4 hgrow4; obtain ⟨i1, i2⟩ := (hj3.below hb4 (by omega)).cells; obtain ⟨i3, i4⟩ := rcells ((hb4.block (w.heap.size + 1) (by omega)).trans hx3) hx9) | fail)
            have ho4 := OwnS.of (a := Dj) (b := DN) hown4 rfl
            refine ⟨⟨j + 1, k1, HJ1.out, by rw [HAT.out]; simp, hk1, rfl, by rw [HS2.out], by rw [HS2.out]; simp [HNX.out], by rw [HS2.out]; exact hR3.below hb4 (by omega), by rw [HS2.out]; simp only [HDN.out]; exact ho4, (hK1.trans (hK3.mono hK1s)).trans (Kept.of hb4)⟩, by simp [intOf]; omega⟩
        · have hkf : k1 = f.length := by omega
          have HFU := Lib.hid (hfu.symm.trans (flipU_here (fun hk => absurd hk (by omega))))
          have hk2 : ¬ (k1 : Int) < (f.length : Int) := by omega
          clear hfu hR hO hK hkf
          have HSC := Lib.hid (rscrub_any g l.length cap g' cap' l'.length at' M ⟨C1, xj, []⟩ wr ⟨hokc.len, hokc.next, hokc.codes⟩ rfl hfew (by omega) hR1)
          have HSP := Lib.hid (scrub_split at' C1 xj Dj M)
          have HNX := Lib.hid (scrub_next (t := at') (show (⟨C1, xj, []⟩ : St).ok l.length from ⟨hokc.len, hokc.next, hokc.codes⟩) M)
          have hxj := hokc.next
          have HDD := Lib.hid (scrub_done at' ⟨C1, xj, []⟩ M)
          have HS2 : Hid (runR E M ⟨nats l, 0, []⟩ f (j + 1) = (scrubT at' M ⟨C1, xj, Dj⟩, f.drop k1)) := Lib.hid (by have h := HS.out; rw [HFU.out] at h; exact h)
          have HO1 := Lib.hid (fun q (hq : Value.ownBlock u11 = some q) => (World.ownsRow.lt hO1 q hq).1)
          unfold bankV at HSC
          clear hokc HFU HS
          go_wp2_with fail
          refine HSC.out.mono ?_
          rintro e' w3 ⟨v3, rfl, hR3, hO3, hK3⟩
          generalize scrubT at' M ⟨C1, xj, Dj⟩ = sD at *
          generalize scrubT at' M ⟨C1, xj, []⟩ = sN at *
          obtain ⟨CN, xN, DN⟩ := sN
          obtain ⟨CD, xD, DD⟩ := sD
          simp only at hR3 hO3 HSP HNX HDD
          obtain ⟨hs1, hs2, hs4⟩ := HSP.out
          subst hs1 hs2
          have HDN := Lib.hid hs4
          obtain ⟨A3, c3, rfl, hSR3⟩ := hO3.loose
          have hdl : DN.length ≤ 5000 := by have := HDD.out; simp only [List.length_nil] at this; omega
          have hz3 := hK3.size
          have hO3' : OwnS w3 wq.heap.size u11 Dj := hO1.same fun q h1 h2 => hK3.block q h2 (by omega)
          have hj3 := hK3.heldB hj9 (by omega) (by omega)
          have hx3 := (hK3.block (w.heap.size + 1) (by omega) (by omega)).trans (hK1.block (w.heap.size + 1) (by omega) (by omega))
          have HGR := Lib.hid (fun w4 (hg4 : w3.grownBy w4 (Value.ownBlock u11)) => (Below.refl wq.heap.size w3).grown hg4 (by omega) HO1.out)
          clear hs4 HSP i1 i2 i3 i4 hO3
          go_wp2_with (first | (at_builtin; refine wpList_app _ rfl (.tmp 59) (.tmp 65) 55 123 4 32 rfl elemS wq.heap.size u11 Dj.length (scells Dj) rfl hO3' w3.heap.size A3 DN.length c3 (scells DN) rfl (scells_len DN) hSR3 (scells_one _) (by unfold maxLen; omega) (by omega) (by omega) ?_; intro v4 w4 hown4 hgrow4 hat4; have hb4 := HGR.out w4 hgrow4; obtain ⟨i1, i2⟩ := (hj3.below hb4 (by omega)).cells; obtain ⟨i3, i4⟩ := rcells ((hb4.block (w.heap.size + 1) (by omega)).trans hx3) hx9) | fail)
          have ho4 := OwnS.of (a := Dj) (b := DN) hown4 rfl
          refine ⟨⟨j + 1, k1, HJ1.out, by rw [HAT.out]; simp, hk1, rfl, by rw [HS2.out], by rw [HS2.out]; simp [HNX.out], by rw [HS2.out]; exact hR3.below hb4 (by omega), by rw [HS2.out]; simp only [HDN.out]; exact ho4, (hK1.trans (hK3.mono hK1s)).trans (Kept.of hb4)⟩, by simp [intOf]; omega⟩
    · have HE := Lib.hid (HJE.out (hdiv2 hle))
      clear hdiv hdiv2 HJE hmj hdn hat0 hat2 HEND HRD HRO HS
      go_wp2_with fail
      go_loopw [13] (fun k wr' => ∃ (k1 : Nat) (C1 : List Nat), k1 ≤ f.length ∧ k = .int .i64 (k1 : Int) ∧ (⟨C1, xj, Dj⟩ : St).ok l.length ∧ flipU (U : Int) C1 (f.drop k1) = flipU (U : Int) Cj (f.drop kk) ∧ RowAt wr' g cap (ints C1) ∧ OwnS wr' wq.heap.size u11 Dj ∧ Kept wq.heap.size g wq wr') (fun k _ => f.length - (intOf k).toNat)
      case atStart => exact ⟨kk, Cj, hkk, rfl, hok1, rfl, hR, hO, hK⟩
      case round =>
        obtain ⟨k1, C1, hk1, rfl, hokc, hfu, hR1, hO1, hK1⟩ := hrel
        have hK1s := hK1.size
        have bK := (hK1.to (by omega)).mono (show B ≤ g by omega)
        have hfr := hfq.below bK
        have hj9 := hK1.heldB h9 (by omega) (by omega)
        obtain ⟨i1, i2⟩ := hj9.cells
        obtain ⟨i3, i4⟩ := rcells (hK1.block (w.heap.size + 1) (by omega) (by omega)) hx9
        by_cases hlt : k1 < f.length
        · obtain ⟨ad, hA, had, d0, d1, d2⟩ := hfr.get k1 hlt
          have hyo := HOKF.out f[k1] (List.getElem_mem hlt)
          have hk0 : (0 : Int) ≤ (k1 : Int) := Int.natCast_nonneg _
          have hk1' : (k1 : Int) < (f.length : Int) := by omega
          by_cases ht : f[k1].t ≤ (U : Int)
          · have HFU := Lib.hid ((flipU_next hlt ht).symm.trans hfu)
            have HOK2 := Lib.hid (flipC_ok hokc hyo)
            obtain ⟨-, hyp, hyb⟩ := hyo
            obtain ⟨p, hp⟩ : ∃ p : Nat, f[k1].p = (p : Int) := ⟨f[k1].p.toNat, by omega⟩
            obtain ⟨b, hb⟩ : ∃ b : Nat, f[k1].b = (b : Int) + 1 := ⟨(f[k1].b - 1).toNat, by omega⟩
            have hlen := hokc.len
            simp only at hlen
            have hpl : p < C1.length := by omega
            have hcl := hokc.codes p hpl
            simp only at hcl
            have hcell := hR1.cell p (by rw [ints_len]; exact hpl)
            rw [ints_get C1 p hpl] at hcell
            have hfree := hR1.free p
            have hb21 : b < 22 := by omega
            have HC2 : Hid (C1.set p (C1[p] ^^^ 2 ^ b) = flipC C1 f[k1]) := Lib.hid (by
              unfold flipC
              rw [hp, hb, Int.toNat_natCast, show ((b : Int) + 1).toNat - 1 = b by omega]
              simp [List.getD, hpl])
            rw [hp] at d1
            rw [hb] at d2
            have hp0 : (0 : Int) ≤ (p : Int) := Int.natCast_nonneg _
            have hp1 : (p : Int) < (l.length : Int) := by omega
            generalize C1[p] = q at *
            have hwp := wpow b (by omega)
            rw [show ((2 ^ b : Nat) : Int) = (2 : Int) ^ b by simp] at hwp
            have hxu := xor_up q b hcl hb21
            generalize q ^^^ 2 ^ b = V at *
            generalize hy : f[k1] = y at *
            obtain ⟨yt, yp, yb⟩ := y
            simp only at ht d0
            subst hA
            clear hfu hokc hyp hyb hp hb hy hR hO hK i3 i4
            go_wp2_with fail
            go_region
            go_wp2_with fail
            have hRn := (hR1.set p (V : Int)).drew
            rw [ints_set, HC2.out] at hRn
            exact ⟨⟨k1 + 1, _, by omega, by go_num, HOK2.out, HFU.out, hRn, (hO1.other (p := g) (k := p) (u := .int .i64 (V : Int)) (by omega)).drew, (hK1.setG (k := p) (u := .int .i64 (V : Int))).drew⟩, by simp [intOf]; omega⟩
          · have HFU := Lib.hid (hfu.symm.trans (flipU_here (fun _ => ht)))
            generalize f[k1].t = yt at *
            subst hA
            clear hfu hyo hR hO hK d1 d2
            have HE2 : Hid (RE = ⟨C1, xj, Dj⟩) := Lib.hid (by have h := HE.out; rw [HFU.out] at h; exact h)
            obtain ⟨Dd, ck, rfl, hSD, hDb⟩ := hO1.form
            have hxq := hK1.heldB q9 (by omega) (by omega)
            obtain ⟨j1, j2⟩ := hxq.cells
            have j3 := hxq.free 0
            have j4 := hxq.free 1
            have hrs := hK1.row r9' (by omega) (by omega)
            have bw : Below w.heap.size w wr := bx9.trans ((hK1.to (by omega)).mono (by omega))
            have hSD2 : SR ((wr.setCell ⟨w.heap.size + 2, 0, .none⟩ (.slice (some ⟨g, 0, .none⟩) l.length cap)).setCell ⟨w.heap.size + 2, 1, .none⟩ (.slice (some ⟨g', 0, .none⟩) l'.length cap')) wr.heap.size Dd Dj := (hSD.other fun ad q => by have := hDb ad q; omega).other fun ad q => by have := hDb ad q; omega
            clear HFU HE hO1 i3 i4 hokc
            go_wp2_with fail
            refine bodyPost_ret (v := .tuple #[.agg #[.slice (some ⟨g, 0, .none⟩) l.length cap, .slice (some ⟨g', 0, .none⟩) l'.length cap'], .slice Dd Dj.length ck]) (by simp [results, Try.results82, go_sem, j1, j2]) rfl ?_
            rw [HE2.out]
            refine ⟨g, cap, g', cap', Dd, ⟨ck, rfl⟩, ?_, ?_, ?_, by omega, by omega, (fun ad q => by have := hDb ad q; omega), ?_⟩
            · exact (hR1.other (by omega)).other (by omega)
            · exact (hrs.other (by omega)).other (by omega)
            · exact SR.lift hSD2 (by simp [World.setCell])
            · exact (bw.setCell (p := ⟨w.heap.size + 2, 0, .none⟩) (by simp) _).setCell (p := ⟨w.heap.size + 2, 1, .none⟩) (by simp) _
        · have hkf : k1 = f.length := by omega
          have HFU := Lib.hid (hfu.symm.trans (flipU_here (fun hk => absurd hk (by omega))))
          have hk2 : ¬ (k1 : Int) < (f.length : Int) := by omega
          clear hfu hR hO hK hkf
          have HE2 : Hid (RE = ⟨C1, xj, Dj⟩) := Lib.hid (by have h := HE.out; rw [HFU.out] at h; exact h)
          obtain ⟨Dd, ck, rfl, hSD, hDb⟩ := hO1.form
          have hxq := hK1.heldB q9 (by omega) (by omega)
          obtain ⟨j1, j2⟩ := hxq.cells
          have j3 := hxq.free 0
          have j4 := hxq.free 1
          have hrs := hK1.row r9' (by omega) (by omega)
          have bw : Below w.heap.size w wr := bx9.trans ((hK1.to (by omega)).mono (by omega))
          have hSD2 : SR ((wr.setCell ⟨w.heap.size + 2, 0, .none⟩ (.slice (some ⟨g, 0, .none⟩) l.length cap)).setCell ⟨w.heap.size + 2, 1, .none⟩ (.slice (some ⟨g', 0, .none⟩) l'.length cap')) wr.heap.size Dd Dj := (hSD.other fun ad q => by have := hDb ad q; omega).other fun ad q => by have := hDb ad q; omega
          clear HFU HE hO1 i3 i4 hokc
          go_wp2_with fail
          refine bodyPost_ret (v := .tuple #[.agg #[.slice (some ⟨g, 0, .none⟩) l.length cap, .slice (some ⟨g', 0, .none⟩) l'.length cap'], .slice Dd Dj.length ck]) (by simp [results, Try.results82, go_sem, j1, j2]) rfl ?_
          rw [HE2.out]
          refine ⟨g, cap, g', cap', Dd, ⟨ck, rfl⟩, ?_, ?_, ?_, by omega, by omega, (fun ad q => by have := hDb ad q; omega), ?_⟩
          · exact (hR1.other (by omega)).other (by omega)
          · exact (hrs.other (by omega)).other (by omega)
          · exact SR.lift hSD2 (by simp [World.setCell])
          · exact (bw.setCell (p := ⟨w.heap.size + 2, 0, .none⟩) (by simp) _).setCell (p := ⟨w.heap.size + 2, 1, .none⟩) (by simp) _
end Go.Proofs.Yteelepjhlhifhaa
