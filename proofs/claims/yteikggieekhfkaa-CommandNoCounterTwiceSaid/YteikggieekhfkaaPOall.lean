/- opening signed commands one behind the other: the program's OpenedAll whole. -/
import Derived.Test.YteikggieekhfkaaAllM
import Derived.Test.YteikggieekhfkaaYRow
namespace Go.Proofs.Yteikggieekhfkaa
open Go.RowKit

set_option maxRecDepth 100000 in
set_option maxHeartbeats 8000000 in
theorem p_oall_any (key least : Int) (SA : Option Addr) (l : List Int) (sc : Nat) (A : Option Addr) (L : List (List UInt8)) (c B : Nat) (w : World) (hB : B ≤ w.heap.size) (hll : l.length ≤ 9223372036854775807) (hSn : SA = none → sc = 0) (hLl : L.length ≤ 9223372036854775807) (hS : IR w B SA l) (hQ : KR w B A L) :
    Calls Try.prog 38 #[kyV key least (.slice SA l.length sc), .slice A L.length c] w (AllPost (oallR key least l L) (oallF key least l L.length) w) := by
  have HF := Lib.hid (show oallF key least l L.length = if keysS key least l = 0 then (if 2000 < L.length then 2 else 0) else keysS key least l from rfl)
  have HR := Lib.hid (show oallR key least l L = if oallF key least l L.length = 0 then (key, oaAll key least l L) else (0, ⟨0, [], [], []⟩) from rfl)
  have HCK := Lib.hid (fun w2 (hb2 : Below w.heap.size w w2) => p_checkKeys_any key least SA l sc B w2 (Nat.le_trans hB hb2.size) hll (hS.below (hb2.mono hB)))
  have HCL := Lib.hid (fun (hl : l.length ≤ 2000) w2 (hb2 : Below w.heap.size w w2) => cloneO_any SA sc l B w2 hSn hl (Nat.le_trans hB hb2.size) (hS.below (hb2.mono hB)))
  have HKZ := Lib.hid (keys_zero key least l)
  generalize oallF key least l L.length = F at *
  generalize oallR key least l L = R at *
  unfold kyV at HCK ⊢
  generalize keysS key least l = Q at *
  obtain ⟨w1, hw1⟩ : ∃ w1, (w.alloc (.cells (kyC key least (.slice SA l.length sc)) 58)).alloc (.cells (kyC 0 0 (.slice none 0 0)) 58) = w1 := ⟨_, rfl⟩
  have b1 : Below w.heap.size w w1 := by rw [← hw1]; exact two_new w _ _
  have z1 : w1.heap.size = w.heap.size + 2 := by rw [← hw1]; simp
  have g0 : Blk w1 w.heap.size (kyC key least (.slice SA l.length sc)) 58 := by rw [← hw1]; exact (Blk.new w _ _).alloc _
  have g1 : Blk w1 (w.heap.size + 1) (kyC 0 0 (.slice none 0 0)) 58 := by rw [← hw1]; exact Blk.snd w _ _ _
  unfold kyC at hw1
  have HW1 := Lib.hid hw1
  obtain ⟨p0, p1, p2⟩ := blk_k g0
  clear hw1 hS
  go_enter Try.func38, Try.ntmps38
  go_upto_region 1 with fail
  rw [HW1.out]
  go_wp2_with fail
  refine (HCK.out w1 b1).mono ?_
  rintro e w2 ⟨rfl, hb2⟩
  have g02 := g0.below hb2 g0.lt
  have g12 := g1.below hb2 g1.lt
  have B2 := b1.trans (hb2.mono b1.size)
  clear p0 p1 p2
  obtain ⟨p0, p1, p2⟩ := blk_k g02
  obtain ⟨q0, q1, q2⟩ := blk_k g12
  obtain ⟨e0, e1, e2, -, -, -⟩ := blk_f g12
  have hz2 := hb2.size
  by_cases hq : Q = 0
  · subst hq
    obtain ⟨-, hright⟩ := HKZ.out.1 rfl
    have HRT := Lib.hid hright
    by_cases h2 : 2000 < L.length
    · have i2 : (2000 : Int) < (L.length : Int) := by omega
      have HX : Hid (F = 2 ∧ R = (0, ⟨0, [], [], []⟩)) := Lib.hid (by
        have h1 : F = 2 := by rw [HF.out, if_pos rfl, if_pos h2]
        exact ⟨h1, by rw [HR.out, h1]; rfl⟩)
      clear HF HR HKZ hright
      go_wp2_with fail
      refine bodyPost_ret (v := .tuple #[.agg #[.int .i64 0, .int .i64 0, .slice none 0 0], .slice none 0 0, .slice none 0 0, .int .i64 2]) (by simp [results, Try.results38, go_sem, q0, q1, q2]) rfl ?_
      rw [HX.out.1, HX.out.2]
      exact AllPost.zero B2
    · have i2 : (L.length : Int) ≤ 2000 := by omega
      have HX : Hid (F = 0 ∧ R = (key, oaAll key least l L)) := Lib.hid (by
        have h1 : F = 0 := by rw [HF.out, if_pos rfl, if_neg h2]
        exact ⟨h1, by rw [HR.out, if_pos h1]⟩)
      have HC3 := Lib.hid (HCL.out (by have := hright.2.2.1; omega) w2 B2)
      clear HF HR HKZ hright HCL HCK q0 q1 q2 e0 e1 e2
      obtain ⟨e0, e1, e2, -, -, -⟩ := blk_f g02
      go_wp2_with fail
      refine HC3.out.mono ?_
      rintro e w3 ⟨v3, rfl, ho3, hb3⟩
      obtain ⟨A3, c3, rfl, hr3, hlc3, hcm3, hn3, hf3⟩ := ho3.form2
      have g03 := g02.below hb3 g02.lt
      have g13 := g12.below hb3 g12.lt
      have B3 := B2.trans (hb3.mono B2.size)
      have hz3 := hb3.size
      clear p0 p1 p2 e0 e1 e2 HC3 ho3
      obtain ⟨p0, p1, p2⟩ := blk_k g03
      obtain ⟨e0, e1, e2, -, -, -⟩ := blk_f g03
      have hk1 : Blk (w3.setCell ⟨w.heap.size, 2, none⟩ (.slice A3 l.length c3)) w.heap.size (kyC key least (.slice A3 l.length c3)) 58 := g03.set1 2 _
      have hk2 : Blk (w3.setCell ⟨w.heap.size, 2, none⟩ (.slice A3 l.length c3)) (w.heap.size + 1) (kyC 0 0 (.slice none 0 0)) 58 := g13.other (by omega)
      have hA0 : AllAt w.heap.size (w.heap.size + 2) (w3.setCell ⟨w.heap.size, 2, none⟩ (.slice A3 l.length c3)) A3 l (.slice none 0 0) [] (.slice none 0 0) [] :=
        (AllAt.start (by omega) (by omega) hr3 (fun _ ad e => by have := hf3 ad e; omega)).set (by omega) (by omega)
      have B4 : Below w.heap.size w (w3.setCell ⟨w.heap.size, 2, none⟩ (.slice A3 l.length c3)) := B3.setCell (Nat.le_refl _) _
      have HK1 := Lib.hid hk1
      have HK2 := Lib.hid hk2
      have HA0 := Lib.hid hA0
      have HB4 := Lib.hid B4
      have HN3 := Lib.hid hn3
      clear hk1 hk2 hA0 B4 hn3 hr3 hf3 hlc3 hcm3
      go_wp2_with fail
      go_loopw [9, 10, 32] (fun u f i wr => ∃ (j : Nat) (SA' : Option Addr) (sc' : Nat) (S : OA), j ≤ L.length ∧ i = .int .i64 j ∧ S = oaAll key least l (L.take j) ∧ Blk wr w.heap.size (kyC key S.least (.slice SA' S.seen.length sc')) 58 ∧ Blk wr (w.heap.size + 1) (kyC 0 0 (.slice none 0 0)) 58 ∧
        AllAt w.heap.size (w.heap.size + 2) wr SA' S.seen u S.bodies f S.faults ∧ (SA' = none → sc' = 0) ∧ Below w.heap.size w wr) (fun _ _ i _ => L.length - (intOf i).toNat)
      case atStart => exact ⟨0, A3, c3, ⟨least, l, [], []⟩, Nat.zero_le _, rfl, rfl, HK1.out, HK2.out, HA0.out, HN3.out, HB4.out⟩
      case round =>
        obtain ⟨j, SA', sc', S, hj, rfl, hS', gK, gZ, hA, hsn, hbr⟩ := hrel
        clear p0 p1 p2 e0 e1 e2 HK1 HK2 HA0 HN3 HB4 g03 g13 g02 g12 g0 g1
        obtain ⟨p0, p1, p2⟩ := blk_k gK
        obtain ⟨e0, e1, e2, -, -, -⟩ := blk_f gK
        have hgl := gZ.lt
        by_cases hlt : j < L.length
        · obtain ⟨ad, X, k, hA0, hbk, hc, hr, hlk, hkm⟩ := (hQ.below (hbr.mono hB)).get j hlt
          subst hA0
          have hi0 : (0 : Int) ≤ (j : Int) := by omega
          have hi1 : (j : Int) < (L.length : Int) := by omega
          have hok := oa_ok key least l HRT.out L j hj
          rw [← hS'] at hok
          have hnx := oa_next key least l L j hlt
          rw [← hS'] at hnx
          obtain ⟨hrt, hfl, hbl, h200⟩ := hok
          have HOP := Lib.hid (p_open_any key S.least SA' S.seen sc' X L[j] k wr.heap.size wr (Nat.le_refl _) (by have := hrt.2.2.1; omega) hrt.1 hrt.2.1 hlk (by unfold maxLen at hkm; omega) hA.seen (hr.lift (Nat.le_trans hB hbr.size)))
          have HSE := Lib.hid (fun w2 (hb2 : Below wr.heap.size wr w2) => p_seen_any key S.least (openN key S.least S.seen L[j]) SA' S.seen sc' wr.heap.size w2 hb2.size (by have := hrt.2.2.1; omega) (pair_asc hrt.2.2.2.2) hsn hrt.1 (by have := hrt.2.1; omega) (hA.seen.below hb2))
          have HGD := Lib.hid (@oa_good key S L[j])
          have HBD := Lib.hid (@oa_bad key S L[j])
          unfold OpenPost at HOP
          unfold SeenPost at HSE
          unfold kyV at HOP HSE
          have HNX := Lib.hid hnx
          clear hnx hr hrt h200 hS'
          generalize hLj : L[j].length = nb at *
          generalize L[j] = b at *
          generalize hn : openN key S.least S.seen b = n at *
          generalize openB key S.least S.seen b = ob at *
          generalize openC key S.least S.seen b = C at *
          generalize seenS S.least S.seen n = R2 at *
          go_wp2_with fail
          refine HOP.out.mono ?_
          rintro e w4 ⟨v4, rfl, ho4, hb4⟩
          obtain ⟨X4, k4, rfl, hr4, hf4, hlk4⟩ := ho4.form5
          have gK4 := gK.below hb4 gK.lt
          have gZ4 := gZ.below hb4 gZ.lt
          have B4 := hbr.trans (hb4.mono hbr.size)
          have hz4 := hb4.size
          have zr := hbr.size
          clear p0 p1 p2 e0 e1 e2 HOP
          obtain ⟨p0, p1, p2⟩ := blk_k gK4
          obtain ⟨e0, e1, e2, -, -, -⟩ := blk_f gK4
          by_cases hC : C = 0
          · subst hC
            have HG := Lib.hid (HGD.out rfl)
            clear HGD HBD
            go_wp2_with fail
            refine (HSE.out w4 hb4).mono ?_
            rintro e w5 ⟨A5, c5, rfl, hr5, hlc5, hn5, hf5, hb5⟩
            have gK5 := gK4.below hb5 gK4.lt
            have gZ5 := gZ4.below hb5 gZ4.lt
            have B5 := B4.trans (hb5.mono B4.size)
            have hb45 := hb4.trans (hb5.mono hz4)
            have hz5 := hb5.size
            have hr45 := (hr4.below hb5).lift hz5
            have hA5 := hA.keys hb45 hr5 (fun ad e => by have := hf5 ad e; omega)
            have hP := hA.base
            obtain ⟨W6, hW6⟩ : ∃ W6, ((w5.setCell ⟨w.heap.size, 0, none⟩ (.int .i64 key)).setCell ⟨w.heap.size, 1, none⟩ (.int .i64 R2.1)).setCell ⟨w.heap.size, 2, none⟩ (.slice A5 R2.2.length c5) = W6 := ⟨_, rfl⟩
            have z6 : W6.heap.size = w5.heap.size := by rw [← hW6]; simp
            have hA6 : AllAt w.heap.size (w.heap.size + 2) W6 A5 R2.2 u9 S.bodies u10 S.faults := by rw [← hW6]; exact ((hA5.set (by omega) (by omega)).set (by omega) (by omega)).set (by omega) (by omega)
            have gK6 : Blk W6 w.heap.size (kyC key R2.1 (.slice A5 R2.2.length c5)) 58 := by rw [← hW6]; exact ((gK5.set1 0 _).set1 1 _).set1 2 _
            have gZ6 : Blk W6 (w.heap.size + 1) (kyC 0 0 (.slice none 0 0)) 58 := by rw [← hW6]; exact ((gZ5.other (by omega)).other (by omega)).other (by omega)
            have B6 : Below w.heap.size w W6 := by rw [← hW6]; exact ((B5.setCell (Nat.le_refl _) _).setCell (Nat.le_refl _) _).setCell (Nat.le_refl _) _
            have hne4 : ∀ ad, X4 = some ad → ad.block ≠ w.heap.size := fun ad e => by have := hf4 ad e; omega
            have hr46 : BR W6 W6.heap.size X4 ob := by rw [← hW6]; exact (((hr45.other hne4).other hne4).other hne4).lift (by simp)
            have hlB := fun k (e : u9.ownBlock = some k) => (World.ownsRow.lt hA.bods.choose_spec.2.1 k e)
            have hlF := fun k (e : u10.ownBlock = some k) => (World.ownsRow.lt hA.faults k e)
            have hF4 : ob ≠ [] → ∀ ad, X4 = some ad → w.heap.size + 2 ≤ ad.block ∧ u9.ownBlock ≠ some ad.block ∧ u10.ownBlock ≠ some ad.block := fun _ ad e => by
              have := hf4 ad e
              exact ⟨by omega, fun q => by have := (hlB _ q).2; omega, fun q => by have := (hlF _ q).2; omega⟩
            have b7 : Below W6.heap.size W6 (W6.alloc (.cells #[.slice X4 ob.length k4] 24)) := (Below.refl _ _).alloc (Nat.le_refl _) _
            have HA7 := Lib.hid (hA6.after b7)
            have HR7 := Lib.hid ((hr46.below b7).lift b7.size)
            have HF4 := Lib.hid hF4
            have HGK := Lib.hid gK6
            have HGZ := Lib.hid gZ6
            have HB6 := Lib.hid (B6.trans (b7.mono B6.size))
            have HN5 := Lib.hid hn5
            have hbl2 : S.bodies.length ≤ 100000 := by omega
            have hfl2 : S.faults.length ≤ 100000 := by omega
            have hS2 := B6.size
            clear z6
            clear p0 p1 p2 e0 e1 e2
            obtain ⟨p0, p1, p2⟩ := blk_k gK5
            obtain ⟨e0, e1, e2, -, -, -⟩ := blk_f gK5
            clear hA hA5 hA6 gK6 gZ6 B6 hr4 hr45 hr46 hr5 hf4 hf5 hlB hlF hF4 hne4 hn5 ho4 HSE b7
            go_upto_region 15 with fail
            go_wp2_with (first
              | (at_builtin; refine wpList_allB rfl (.tmp 48) (.tmp 50) rfl HA7.out rfl (W6.heap.size + 1) _ _ X4 ob k4 rfl (Cells.fresh W6 _ 24 _ _ rfl) hlk4 HR7.out HF4.out hbl2 ?_; intro v7 w7 hA7 hb7 _ _)
              | (at_builtin; refine wpList_allF rfl (.tmp 52) (.tmp 54) rfl (hA7.after ((Below.refl _ _).alloc (Nat.le_refl _) _)) rfl (w7.heap.size + 1) _ _ 0 rfl (Cells.fresh w7 _ 3 _ _ rfl) hfl2 ?_; intro v8 w8 hA8 hb8 _ _)
              | fail)
            go_roundw
            case rel =>
              have hb78 := hb7.trans (((Below.refl _ _).alloc (by have := hA7.base; exact this) (.cells #[.int .i64 0] 3)).trans hb8)
              have gKa := HGK.out.alloc (.cells #[.slice X4 ob.length k4] 24)
              have gZa := HGZ.out.alloc (.cells #[.slice X4 ob.length k4] 24)
              exact ⟨j + 1, A5, c5, ⟨R2.1, R2.2, S.bodies ++ [ob], S.faults ++ [0]⟩, by omega, by go_num, by rw [HNX.out, HG.out], gKa.below hb78 (by omega), gZa.below hb78 (by omega), hA8, HN5.out, HB6.out.trans (hb78.mono (by omega))⟩
            case measure => simp [intOf]; omega
          · have HG := Lib.hid (HBD.out hC)
            have dq : (C == 0) = false := by simpa using hC
            have hA4 := hA.after hb4
            have HSN := Lib.hid hsn
            have hfl2 : S.faults.length ≤ 100000 := by omega
            have hP4 := hA4.base
            have HGK := Lib.hid gK4
            have HGZ := Lib.hid gZ4
            have HB4 := Lib.hid B4
            clear HGD HBD HSE hA ho4 hr4 hf4 hsn hC
            go_wp2_with (first
              | (at_builtin; refine wpList_allF rfl (.tmp 52) (.tmp 54) rfl (hA4.after ((Below.refl _ _).alloc (Nat.le_refl _) _)) rfl (w4.heap.size + 1) _ _ C rfl (Cells.fresh w4 _ 3 _ _ rfl) hfl2 ?_; intro v8 w8 hA8 hb8 _ _)
              | fail)
            go_roundw
            case rel =>
              have hb78 := ((Below.refl (w.heap.size + 2) w4).alloc hP4 (.cells #[.int .i64 C] 3)).trans hb8
              exact ⟨j + 1, SA', sc', ⟨S.least, S.seen, S.bodies, S.faults ++ [C]⟩, by omega, by go_num, by rw [HNX.out, HG.out], HGK.out.below hb78 (by omega), HGZ.out.below hb78 (by omega), hA8, HSN.out, HB4.out.trans (hb78.mono (by omega))⟩
            case measure => simp [intOf]; omega
        · have hjj : j = L.length := by omega
          subst hjj
          rw [List.take_length] at hS'
          have HSS := Lib.hid hS'
          have HAA := Lib.hid hA
          clear hS' hA
          obtain ⟨q0, q1, q2⟩ := blk_k gZ
          obtain ⟨s0, s1, s2, -, -, -⟩ := blk_f gZ
          have hi1 : ¬ (L.length : Int) < (L.length : Int) := by omega
          go_wp2_with fail
          refine bodyPost_ret (v := .tuple #[.agg #[.int .i64 key, .int .i64 S.least, .slice SA' S.seen.length sc'], u9, u10, .int .i64 0]) (by simp [results, Try.results38, go_sem, q0, q1, q2]) rfl ?_
          rw [HX.out.1, HX.out.2, ← HSS.out]
          exact AllPost.full HAA.out hbr
  · have hFQ : F = Q := by rw [HF.out, if_neg hq]
    have hRQ : R = (0, ⟨0, [], [], []⟩) := by rw [HR.out, if_neg (by rw [hFQ]; exact hq)]
    have HX := Lib.hid (And.intro hFQ hRQ)
    have dq : (Q != 0) = true := by simpa using hq
    clear hFQ hRQ hq HF HR HKZ HCL HCK
    go_wp2_with fail
    refine bodyPost_ret (v := .tuple #[.agg #[.int .i64 0, .int .i64 0, .slice none 0 0], .slice none 0 0, .slice none 0 0, .int .i64 Q]) (by simp [results, Try.results38, go_sem, q0, q1, q2]) rfl ?_
    rw [HX.out.1, HX.out.2]
    exact AllPost.zero B2
end Go.Proofs.Yteikggieekhfkaa
