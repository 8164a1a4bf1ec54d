/- opening signed commands one behind the other: the reference's OpenedAll whole. -/
import Derived.Test.YteikggieekhfkaaAllM
import Derived.Test.YteikggieekhfkaaYRow
import Derived.Test.YteikggieekhfkaaROpn
namespace Go.Proofs.Yteikggieekhfkaa
open Go.RowKit

set_option maxRecDepth 100000 in
set_option maxHeartbeats 8000000 in
theorem r_oall_any (key least : Int) (SA : Option Addr) (l : List Int) (sc : Nat) (A : Option Addr) (L : List (List UInt8)) (c B : Nat) (w : World) (hB : B ≤ w.heap.size) (hll : l.length ≤ 9223372036854775807) (hSn : SA = none → sc = 0) (hLl : L.length ≤ 9223372036854775807) (hS : IR w B SA l) (hQ : KR w B A L) :
    Calls Try.prog 39 #[kyV key least (.slice SA l.length sc), .slice A L.length c] w (AllPost (oallR key least l L) (oallF key least l L.length) w) := by
  have HF := Lib.hid (show oallF key least l L.length = if keysS key least l = 0 then (if 2000 < L.length then 2 else 0) else keysS key least l from rfl)
  have HR := Lib.hid (show oallR key least l L = if oallF key least l L.length = 0 then (key, oaAll key least l L) else (0, ⟨0, [], [], []⟩) from rfl)
  have HCK := Lib.hid (fun w2 (hb2 : Below w.heap.size w w2) => r_checkKeys_any key least SA l sc B w2 (Nat.le_trans hB hb2.size) hll (hS.below (hb2.mono hB)))
  have HCL := Lib.hid (fun (hl : l.length ≤ 2000) w2 (hb2 : Below w.heap.size w w2) => cloneO_any SA sc l B w2 hSn hl (Nat.le_trans hB hb2.size) (hS.below (hb2.mono hB)))
  have HKZ := Lib.hid (keys_zero key least l)
  generalize oallF key least l L.length = F at *
  generalize oallR key least l L = R at *
  unfold kyV at HCK ⊢
  generalize keysS key least l = Q at *
  obtain ⟨w1, hw1⟩ : ∃ w1, (w.alloc (.cells (kyC key least (.slice SA l.length sc)) 58)).alloc (.cells (kyC 0 0 (.slice none 0 0)) 58) = w1 := ⟨_, rfl⟩
  have b1 : Below w.heap.size w w1 := by rw [← hw1]; exact two_new w _ _
  have z1 : w1.heap.size = w.heap.size + 2 := by rw [← hw1]; simp
  have g0 : Blk w1 w.heap.size (kyC key least (.slice SA l.length sc)) 58 := by rw [← hw1]; exact (Blk.new w _ _).alloc _
  have g1 : Blk w1 (w.heap.size + 1) (kyC 0 0 (.slice none 0 0)) 58 := by rw [← hw1]; exact Blk.snd w _ _ _
  unfold kyC at hw1
  have HW1 := Lib.hid hw1
  obtain ⟨p0, p1, p2⟩ := blk_k g0
  have HSI := Lib.hid hS
  clear hw1 hS
  go_enter Try.func39, Try.ntmps39
  go_upto_region 1 with fail
  rw [HW1.out]
  go_wp2_with fail
  refine (HCK.out w1 b1).mono ?_
  rintro e w2 ⟨rfl, hb2⟩
  have g02 := g0.below hb2 g0.lt
  have g12 := g1.below hb2 g1.lt
  have B2 := b1.trans (hb2.mono b1.size)
  clear p0 p1 p2
  obtain ⟨p0, p1, p2⟩ := blk_k g02
  obtain ⟨q0, q1, q2⟩ := blk_k g12
  obtain ⟨e0, e1, e2, -, -, -⟩ := blk_f g12
  have hz2 := hb2.size
  by_cases hq : Q = 0
  · subst hq
    obtain ⟨-, hright⟩ := HKZ.out.1 rfl
    have HRT := Lib.hid hright
    by_cases h2 : 2000 < L.length
    · have i2 : (2000 : Int) < (L.length : Int) := by omega
      have HX : Hid (F = 2 ∧ R = (0, ⟨0, [], [], []⟩)) := Lib.hid (by
        have h1 : F = 2 := by rw [HF.out, if_pos rfl, if_pos h2]
        exact ⟨h1, by rw [HR.out, h1]; rfl⟩)
      clear HF HR HKZ hright
      go_wp2_with fail
      refine bodyPost_ret (v := .tuple #[.agg #[.int .i64 0, .int .i64 0, .slice none 0 0], .slice none 0 0, .slice none 0 0, .int .i64 2]) (by simp [results, Try.results39, go_sem, q0, q1, q2]) rfl ?_
      rw [HX.out.1, HX.out.2]
      exact AllPost.zero B2
    · have i2 : (L.length : Int) ≤ 2000 := by omega
      have HX : Hid (F = 0 ∧ R = (key, oaAll key least l L)) := Lib.hid (by
        have h1 : F = 0 := by rw [HF.out, if_pos rfl, if_neg h2]
        exact ⟨h1, by rw [HR.out, if_pos h1]⟩)
      clear HF HR HKZ hright HCK q0 q1 q2 e0 e1 e2
      have hA0 : AllAt w.heap.size (w.heap.size + 2) w2 SA l (.slice none 0 0) [] (.slice none 0 0) [] :=
        AllAt.start (by omega) (by omega) ((HSI.out.below (B2.mono hB)).lift (by omega)) (fun hne ad e => .inl (by have := cells_lt HSI.out (by simpa using hne) ad e; omega))
      have HA0 := Lib.hid hA0
      have HK1 := Lib.hid g02
      have HK2 := Lib.hid g12
      have HB4 := Lib.hid B2
      clear hA0 HSI
      go_wp2_with fail
      go_loopw [9, 10, 29] (fun u f i wr => ∃ (j : Nat) (SA' : Option Addr) (sc' : Nat) (S : OA), j ≤ L.length ∧ i = .int .i64 j ∧ S = oaAll key least l (L.take j) ∧ Blk wr w.heap.size (kyC key S.least (.slice SA' S.seen.length sc')) 58 ∧ Blk wr (w.heap.size + 1) (kyC 0 0 (.slice none 0 0)) 58 ∧
        AllAt w.heap.size (w.heap.size + 2) wr SA' S.seen u S.bodies f S.faults ∧ (SA' = none → sc' = 0) ∧ Below w.heap.size w wr) (fun _ _ i _ => L.length - (intOf i).toNat)
      case atStart => exact ⟨0, SA, sc, ⟨least, l, [], []⟩, Nat.zero_le _, rfl, rfl, HK1.out, HK2.out, HA0.out, hSn, HB4.out⟩
      case round =>
        obtain ⟨j, SA', sc', S, hj, rfl, hS', gK, gZ, hA, hsn, hbr⟩ := hrel
        clear p0 p1 p2 HK1 HK2 HA0 HB4 g02 g12 g0 g1
        obtain ⟨p0, p1, p2⟩ := blk_k gK
        obtain ⟨e0, e1, e2, -, -, -⟩ := blk_f gK
        have hgl := gZ.lt
        by_cases hlt : j < L.length
        · obtain ⟨ad, X, k, hA0, hbk, hc, hr, hlk, hkm⟩ := (hQ.below (hbr.mono hB)).get j hlt
          subst hA0
          have hi0 : (0 : Int) ≤ (j : Int) := by omega
          have hi1 : (j : Int) < (L.length : Int) := by omega
          have hok := oa_ok key least l HRT.out L j hj
          rw [← hS'] at hok
          have hnx := oa_next key least l L j hlt
          rw [← hS'] at hnx
          obtain ⟨hrt, hfl, hbl, h200⟩ := hok
          have HOP := Lib.hid (r_opened_any key S.least SA' S.seen sc' X L[j] k wr.heap.size wr (Nat.le_refl _) (by have := hrt.2.2.1; omega) (pair_asc hrt.2.2.2.2) hsn hrt.1 hrt.2.1 hlk (by unfold maxLen at hkm; omega) hA.seen (hr.lift (Nat.le_trans hB hbr.size)))
          have HEK := Lib.hid (show opnK key S.least S.seen L[j] = if openC key S.least S.seen L[j] = 0 then (key, seenS S.least S.seen (openN key S.least S.seen L[j])) else (0, 0, []) from rfl)
          have HGD := Lib.hid (@oa_good key S L[j])
          have HBD := Lib.hid (@oa_bad key S L[j])
          unfold OpdPost at HOP
          unfold kyV at HOP
          have HNX := Lib.hid hnx
          clear hnx hr hrt h200 hS'
          generalize hLj : L[j].length = nb at *
          generalize L[j] = b at *
          generalize hn : openN key S.least S.seen b = n at *
          generalize openB key S.least S.seen b = ob at *
          generalize openC key S.least S.seen b = C at *
          generalize opnK key S.least S.seen b = KK at *
          generalize seenS S.least S.seen n = R2 at *
          obtain ⟨kk, KR⟩ := KK
          simp only at HOP
          go_wp2_with fail
          refine HOP.out.mono ?_
          rintro e w4 ⟨A4, c4, v4, rfl, hr4, hlc4, hn4, ho4, hb4, hf4⟩
          obtain ⟨X4, k4, rfl, hr4b, hf4b⟩ := ho4.form2
          obtain ⟨w5, hw5⟩ : ∃ w5, w4.alloc (.cells (kyC kk KR.1 (.slice A4 KR.2.length c4)) 58) = w5 := ⟨_, rfl⟩
          have b5 : Below w4.heap.size w4 w5 := by rw [← hw5]; exact (Below.refl _ _).alloc (Nat.le_refl _) _
          have gN : Blk w5 w4.heap.size (kyC kk KR.1 (.slice A4 KR.2.length c4)) 58 := by rw [← hw5]; exact Blk.new w4 _ _
          have gK5 := (gK.below hb4 gK.lt).below b5 (Nat.lt_of_lt_of_le gK.lt hb4.size)
          have gZ5 := (gZ.below hb4 gZ.lt).below b5 (Nat.lt_of_lt_of_le gZ.lt hb4.size)
          have hz4 := hb4.size
          have hz5 := b5.size
          have hb45 := hb4.trans (b5.mono hz4)
          have B5 := hbr.trans (hb45.mono hbr.size)
          have zr := hbr.size
          have hP := hA.base
          have hlF := fun k (e : u10.ownBlock = some k) => (World.ownsRow.lt hA.faults k e)
          have hlB := fun k (e : u9.ownBlock = some k) => (World.ownsRow.lt hA.bods.choose_spec.2.1 k e)
          have hfl2 : S.faults.length ≤ 100000 := by omega
          have hbl2 : S.bodies.length ≤ 100000 := by omega
          have hr5b := (hr4b.below b5).lift b5.size
          have hr5 := (hr4.below b5).lift b5.size
          unfold kyC at hw5
          have HW5 := Lib.hid hw5
          have HE := Lib.hid (show (kk, KR) = if C = 0 then (key, R2) else (0, 0, []) from HEK.out)
          clear p0 p1 p2 e0 e1 e2 HOP hw5 ho4 hr4b gK gZ HEK
          by_cases hC : C = 0
          · subst hC
            obtain ⟨ek, er⟩ : key = kk ∧ R2 = KR := by have := HE.out; rw [if_pos rfl] at this; injection this with a b; exact ⟨a.symm, b.symm⟩
            subst ek er
            have HG := Lib.hid (HGD.out rfl)
            have hA5 := (hA.keys hb4 hr4 hf4).after b5
            have HN4 := Lib.hid hn4
            have hne9 : u9.ownBlock ≠ some w4.heap.size := fun e => by have := (hlB _ e).2; omega
            have hne10 : u10.ownBlock ≠ some w4.heap.size := fun e => by have := (hlF _ e).2; omega
            have hneb : ob ≠ [] → ∀ ad, X4 = some ad → w.heap.size + 2 ≤ ad.block ∧ u9.ownBlock ≠ some ad.block ∧ u10.ownBlock ≠ some ad.block ∧ ad.block < w5.heap.size := fun he ad e => by
              have := hf4b ad e
              have hl := cells_lt hr5b (by simpa using he) ad e
              exact ⟨by omega, fun q => by have := (hlB _ q).2; omega, fun q => by have := (hlF _ q).2; omega, hl⟩
            clear HGD HBD HE hA hlF hlB hr4 hr5 hf4 hf4b hn4 hsn
            go_upto_region 12 with fail
            rw [HW5.out]
            go_upto_region 14 with (first
              | (at_builtin; refine wpList_allF rfl (.tmp 41) (.tmp 43) rfl (hA5.after ((Below.refl _ _).alloc (Nat.le_refl _) _)) rfl (w5.heap.size + 1) _ _ 0 rfl (Cells.fresh w5 _ 3 _ _ rfl) hfl2 ?_; intro v8 w8 hA8 hb8 hg8 ha8)
              | fail)
            have b5a : Below w5.heap.size w5 (w5.alloc (.cells #[.int .i64 0] 3)) := (Below.refl _ _).alloc (Nat.le_refl _) _
            have z5a : (w5.alloc (.cells #[.int .i64 0] 3)).heap.size = w5.heap.size + 1 := by simp
            have hz8 := hg8.size
            have gNl := gN.lt
            have gN8 : Blk w8 w4.heap.size (kyC key R2.1 (.slice A4 R2.2.length c4)) 58 := (hg8.block _ (by omega) fun e => hne10 e.symm).trans (gN.alloc _)
            have gK8 := (gK5.alloc (.cells #[.int .i64 0] 3)).below hb8 (by omega)
            have gZ8 := (gZ5.alloc (.cells #[.int .i64 0] 3)).below hb8 (by omega)
            have B8 := (B5.trans (b5a.mono (by omega))).trans (hb8.mono (by omega))
            have hR8 : RA w.heap.size w4.heap.size w w8 A4 R2.2 u9 S.bodies v8 (S.faults ++ [0]) X4 ob (kyC key R2.1 (.slice A4 R2.2.length c4)) := by
              refine ⟨hA8, ?_, fun he ad e => ?_, gN8, gZ8, by omega, hne9, B8⟩
              · by_cases he : ob = []
                · exact .inl (by simp [he])
                · exact cells_keep ((hr5b.below b5a).lift b5a.size) (fun ad e hl => hg8.block _ hl fun q => (hneb he ad e).2.2.1 q.symm) hz8 (by simpa using he)
              · obtain ⟨x1, x2, x3, x4⟩ := hneb he ad e
                refine ⟨x1, x2, fun q => ?_⟩
                rcases ha8 with r | r
                · exact x3 (r ▸ q)
                · rw [r] at q; injection q with q; omega
            have HR8 := Lib.hid hR8
            have HC1 := Lib.hid (Cells.fresh w8 [.slice X4 ob.length k4] 24 (0, 0) #[.slice X4 ob.length k4] rfl)
            have HK8 := Lib.hid gK8
            obtain ⟨p0, p1, p2⟩ := blk_k gN8
            obtain ⟨e0, e1, e2, -, -, -⟩ := blk_f gK8
            have hgl8 := gK8.lt
            have hnl8 := gN8.lt
            clear hA8 hb8 hg8 ha8 hA5 b5a z5a hz8 gN8 gK8 gZ8 B8 hR8 hr5b hneb gNl
            go_region_law ((rw [if_pos (by rfl)]; refine oper_allR (K := w.heap.size) (N := w4.heap.size) (W := w) (X := (w8.alloc (.cells #[.slice X4 ob.length k4] 24)).drew) (SA := A4) (l := R2.2) (vB := u9) (q := S.bodies) (vF := v8) (fs := S.faults ++ [0]) (A1 := X4) (b := ob) (CN := kyC key R2.1 (.slice A4 R2.2.length c4)) (.tmp 48) (.tmp 50) rfl ?_ rfl (w8.heap.size + 1) (some ⟨w8.heap.size, 0, none⟩) 1 k4 rfl ?_ hbl2 ?_; exact (HR8.out.alloc _).drew; exact HC1.out; intro v9 w9 hR9 hb9; obtain ⟨r0, r1, r2⟩ := blk_k hR9.n; have gK9 : Blk w9 w.heap.size (kyC key S.least (.slice SA' S.seen.length sc')) 58 := (hb9.block _ (by omega)).trans (HK8.out.alloc (.cells #[.slice X4 ob.length k4] 24)); obtain ⟨m0, m1, m2, -, -, -⟩ := blk_f gK9; obtain ⟨n0, n1, n2⟩ := blk_k gK9; have hgl9 := gK9.lt))
            all_goals
              go_wp2_with fail
              have gK9n := ((gK9.set1 0 (.int .i64 key)).set1 1 (.int .i64 R2.1)).set1 2 (.slice A4 R2.2.length c4)
              have hR := hR9.set3 (u0 := .int .i64 key) (u1 := .int .i64 R2.1) (u2 := .slice A4 R2.2.length c4)
              exact ⟨⟨j + 1, A4, c4, ⟨R2.1, R2.2, S.bodies ++ [ob], S.faults ++ [0]⟩, by omega, by go_num, by rw [HNX.out, HG.out], gK9n, hR.z, hR.all, HN4.out, hR.below⟩, by simp [intOf]; omega⟩
          · have HG := Lib.hid (HBD.out hC)
            have dq : (C == 0) = false := by simpa using hC
            have hA5 := hA.after hb45
            have HSN := Lib.hid hsn
            have HGK := Lib.hid gK5
            have HGZ := Lib.hid gZ5
            have HB5 := Lib.hid B5
            clear HGD HBD HE hA hlF hlB hr5 hr4 hf4 hf4b hC hn4 hsn
            go_upto_region 12 with fail
            rw [HW5.out]
            go_wp2_with (first
              | (at_builtin; refine wpList_allF rfl (.tmp 41) (.tmp 43) rfl (hA5.after ((Below.refl _ _).alloc (Nat.le_refl _) _)) rfl (w5.heap.size + 1) _ _ C rfl (Cells.fresh w5 _ 3 _ _ rfl) hfl2 ?_; intro v8 w8 hA8 hb8 hg8 ha8)
              | fail)
            go_roundw
            case rel =>
              have hb78 := ((Below.refl (w.heap.size + 2) w5).alloc (by omega) (.cells #[.int .i64 C] 3)).trans hb8
              exact ⟨j + 1, SA', sc', ⟨S.least, S.seen, S.bodies, S.faults ++ [C]⟩, by omega, by go_num, by rw [HNX.out, HG.out], HGK.out.below hb78 (by omega), HGZ.out.below hb78 (by omega), hA8, HSN.out, HB5.out.trans (hb78.mono (by omega))⟩
            case measure => simp [intOf]; omega
        · have hjj : j = L.length := by omega
          subst hjj
          rw [List.take_length] at hS'
          have hok := oa_ok key least l HRT.out L L.length (Nat.le_refl _)
          rw [List.take_length, ← hS'] at hok
          have HCO := Lib.hid (cloneO_any SA' sc' S.seen wr.heap.size wr hsn (by have := hok.1.2.2.1; omega) (Nat.le_refl _) hA.seen)
          have HSS := Lib.hid hS'
          have HAA := Lib.hid hA
          clear hS' hA hok HCL
          have hi1 : ¬ (L.length : Int) < (L.length : Int) := by omega
          go_wp2_with fail
          refine HCO.out.mono ?_
          rintro e w5 ⟨v5, rfl, ho5, hb5⟩
          obtain ⟨A5, c5, rfl, hr5, hlc5, hcm5, hn5, hf5⟩ := ho5.form2
          have hz5 := hb5.size
          have hP := HAA.out.base
          have hA5 := (HAA.out.keys hb5 hr5 hf5).set (p := w.heap.size) (k := 2) (u := .slice A5 S.seen.length c5) (Nat.le_refl _) (by omega)
          have gK5 := (gK.below hb5 gK.lt)
          have gZ5 := (gZ.below hb5 gZ.lt)
          have B5 := (hbr.trans (hb5.mono hbr.size)).setCell (p := ⟨w.heap.size, 2, none⟩) (Nat.le_refl _) (.slice A5 S.seen.length c5)
          have HA5 := Lib.hid hA5
          have HB5 := Lib.hid B5
          clear p0 p1 p2 e0 e1 e2 HCO ho5 hr5 hf5 hlc5 hcm5 hn5 hA5 B5
          obtain ⟨p0, p1, p2⟩ := blk_k gK5
          obtain ⟨e0, e1, e2, -, -, -⟩ := blk_f gK5
          obtain ⟨q0, q1, q2⟩ := blk_k gZ5
          obtain ⟨s0, s1, s2, -, -, -⟩ := blk_f gZ5
          have hgl5 := gZ5.lt
          go_wp2_with fail
          refine bodyPost_ret (v := .tuple #[.agg #[.int .i64 key, .int .i64 S.least, .slice A5 S.seen.length c5], u9, u10, .int .i64 0]) (by simp [results, Try.results39, go_sem, q0, q1, q2]) rfl ?_
          rw [HX.out.1, HX.out.2, ← HSS.out]
          exact AllPost.full HA5.out HB5.out
  · have hFQ : F = Q := by rw [HF.out, if_neg hq]
    have hRQ : R = (0, ⟨0, [], [], []⟩) := by rw [HR.out, if_neg (by rw [hFQ]; exact hq)]
    have HX := Lib.hid (And.intro hFQ hRQ)
    have dq : (Q != 0) = true := by simpa using hq
    clear hFQ hRQ hq HF HR HKZ HCL HCK
    go_wp2_with fail
    refine bodyPost_ret (v := .tuple #[.agg #[.int .i64 0, .int .i64 0, .slice none 0 0], .slice none 0 0, .slice none 0 0, .int .i64 Q]) (by simp [results, Try.results39, go_sem, q0, q1, q2]) rfl ?_
    rw [HX.out.1, HX.out.2]
    exact AllPost.zero B2
end Go.Proofs.Yteikggieekhfkaa
