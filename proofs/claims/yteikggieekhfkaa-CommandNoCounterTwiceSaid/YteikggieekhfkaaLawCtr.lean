/- Whatever comes, in whatever order, each signed command is opened at most once: the law CommandNoCounterTwice answers true for every input. No condition. -/
import Derived.Test.YteikggieekhfkaaKeyOpen
import Derived.Test.YteikggieekhfkaaCtrM
import Derived.Test.YteikggieekhfkaaPOall
import Derived.Test.YteikggieekhfkaaBelowN
import Derived.Test.YteikggieekhfkaaAwk
import Derived.Test.YteikggieekhfkaaClosed
import Derived.Deep.CutBlock
import Derived.Deep.DeepCutAuto
namespace Go.Proofs.Yteikggieekhfkaa
open Go.ChangeShapes Go.WideShapes Go.ChangeAt Go.RowKit

theorem ctB_cells (m : Int) : #[Value.int .u8 1, Value.int .u8 (m % 256)] = ((ctB m).map bv).toArray := by
  have h : ((UInt8.ofNat (m % 256).toNat).toNat : Int) = m % 256 := by
    rw [show (UInt8.ofNat (m % 256).toNat).toNat = (m % 256).toNat % 256 from UInt8.toNat_ofNat']
    omega
  show _ = #[Value.int .u8 (((1 : UInt8).toNat : Nat) : Int), Value.int .u8 ((UInt8.ofNat (m % 256).toNat).toNat : Int)]
  rw [h]
  rfl
theorem ct_get (key least : Int) (l own : List Int) {w : World} {B : Nat} {A : Option Addr} (h : IR w B A ((List.range own.length).map (ctF key least l own))) (j : Nat) (hj : j < own.length) : ∃ ad, A = some ad ∧ ad.block < B ∧ w.cell? (ad.add j) = some (.int .i64 (ctF key least l own j)) := by
  obtain ⟨ad, a, b, c⟩ := h.get j (by simpa using hj)
  exact ⟨ad, a, b, by simpa using c⟩
set_option maxRecDepth 100000 in
set_option maxHeartbeats 8000000 in
theorem lawCtr_any (key least : Int) (SA : Option Addr) (l : List Int) (sc : Nat) (A : Option Addr) (cs : List Int) (c : Nat) (w : World) (hll : l.length ≤ 9223372036854775807) (hSn : SA = none → sc = 0) (hcl : cs.length ≤ 9223372036854775807) (hI : ∀ x ∈ cs, In64 x) (hS : IR w w.heap.size SA l) (hC : IR w w.heap.size A cs) :
    Calls Try.prog 12 #[kyV key least (.slice SA l.length sc), .slice A cs.length c] w fun e w' => e = .returned (.bool true) ∧ Below w.heap.size w w' := by
  obtain ⟨w0, hw0⟩ : ∃ w0, w.alloc (.cells (kyC key least (.slice SA l.length sc)) 58) = w0 := ⟨_, rfl⟩
  have b0 : Below w.heap.size w w0 := by rw [← hw0]; exact (Below.refl _ _).alloc (Nat.le_refl _) _
  have z0 : w0.heap.size = w.heap.size + 1 := by rw [← hw0]; simp
  have g0 : Blk w0 w.heap.size (kyC key least (.slice SA l.length sc)) 58 := by rw [← hw0]; exact Blk.new w _ _
  have HCP := Lib.hid (p_checkKeys_any key least SA l sc w.heap.size w0 b0.size hll (hS.below b0))
  have HKZ := Lib.hid (keys_zero key least l)
  have HQF := Lib.hid (fun (h : keysS key least l = 0) (n : Nat) (hn : n ≤ 2000) => (show oallF key least l n = 0 by unfold oallF; rw [if_pos h, if_neg (by omega)]))
  have HAW := Lib.hid awake_any
  unfold kyV at HCP ⊢
  generalize keysS key least l = Q at *
  unfold kyC at hw0
  have HW0 := Lib.hid hw0
  obtain ⟨p0, p1, p2⟩ := blk_k g0
  clear hw0
  go_enter Try.func12, Try.ntmps12
  go_upto_region 1 with fail
  rw [HW0.out]
  go_wp2_with fail
  refine HCP.out.mono ?_
  rintro e w1 ⟨rfl, hb1⟩
  have g1 := g0.below hb1 g0.lt
  have B1 := b0.trans (hb1.mono b0.size)
  have hz1 := hb1.size
  clear p0 p1 p2 HCP
  by_cases hq : Q = 0
  · subst hq
    obtain ⟨hkb, hright⟩ := HKZ.out.1 rfl
    have HQ0 := Lib.hid (HQF.out rfl)
    have HRT := Lib.hid hright
    obtain ⟨hl0, hl1, hl2, -, -⟩ := hright
    have hA0 : AllAt w.heap.size (w.heap.size + 1) w1 SA l (.slice none 0 0) [] (.slice none 0 0) [] :=
      AllAt.start (by omega) (by omega) ((hS.below B1).lift (by omega)) (fun hne ad e => .inl (cells_lt hS (by simpa using hne) ad e))
    clear HKZ HQF
    go_upto_block 0 with fail
    go_cut [5, 6] (fun s5 s6 wx => ∃ (own : List Int), (∀ m ∈ own, ctrB m = true) ∧ own.length ≤ 100 ∧ AllAt w.heap.size (w.heap.size + 1) wx SA l s5 (sgL key own) s6 own ∧ Blk wx w.heap.size (kyC key least (.slice SA l.length sc)) 58 ∧ Below w.heap.size w wx)
    case first =>
      go_wp2_with fail
      go_loopw [5, 6, 24] (fun s5 s6 i wr => ∃ j : Nat, j ≤ cs.length ∧ j ≤ 100 ∧ i = .int .i64 j ∧ AllAt w.heap.size (w.heap.size + 1) wr SA l s5 (sgL key (ownF least (cs.take j))) s6 (ownF least (cs.take j)) ∧ Blk wr w.heap.size (kyC key least (.slice SA l.length sc)) 58 ∧ Below w.heap.size w wr) (fun _ _ i _ => cs.length - (intOf i).toNat)
      case atStart => exact ⟨0, Nat.zero_le _, Nat.zero_le _, rfl, hA0, g1, B1⟩
      case round =>
        obtain ⟨j, hj, hj1, rfl, hA, gK, hbr⟩ := hrel
        clear hA0 g1 B1 hb1 hz1
        have hol := own_len least cs j
        have hoc := fun m h => own_ctr (least := least) (cs := cs.take j) (m := m) h
        by_cases hlt : j < cs.length
        · obtain ⟨ad, hA1, hbk, hc⟩ := (hC.below hbr).get j hlt
          subst hA1
          have hi0 : (0 : Int) ≤ (j : Int) := by omega
          have hi1 : (j : Int) < (cs.length : Int) := by omega
          have hIx := hI _ (List.getElem_mem hlt)
          have hnx := own_next least cs j hlt
          by_cases h100 : j < 100
          · have i2 : (j : Int) < 100 := by omega
            have HBL : Hid (∀ w, Calls Try.prog 26 #[.int .i64 cs[j], .int .i64 128] w fun e w' => e = .returned (.int .i64 (cs[j] % 128)) ∧ w = w') := Lib.hid (fun w => belowN_any cs[j] 128 w (by omega) (by omega) hIx)
            have hctn : ctN least cs[j] = least + cs[j] % 128 := rfl
            obtain ⟨v, hv⟩ : ∃ v, cs[j] % 128 = v := ⟨_, rfl⟩
            have hv0 : 0 ≤ v ∧ v < 128 := by omega
            rw [hv] at HBL hctn
            rw [hctn] at hnx
            clear hv hctn
            generalize cs[j] = x at *
            obtain ⟨m, hm⟩ : ∃ m, least + v = m := ⟨_, rfl⟩
            have w1' : IntKind.i64.wrap (least + v) = m := by rw [hm]; exact IntWalk.i64_in _ (by omega)
            have w2' : wrap64 (least + v) = m := by rw [hm]; exact IntWalk.wrap64_in _ (by omega)
            rw [hm] at hnx
            have HNX := Lib.hid hnx
            have HA := Lib.hid hA
            have HGK := Lib.hid gK
            obtain ⟨p0, p1, p2⟩ := blk_k gK
            have hm0 : 0 ≤ m ∧ m ≤ 1000000129 := by omega
            have HM := Lib.hid hm
            have hbv := ctB_cells m
            have HSG : Hid (∀ n, Calls Try.prog 29 #[.int .i64 key, .int .i64 m, .slice (some ⟨wr.heap.size, 0, none⟩) 2 2] ((wr.drewN n).alloc (.cells #[.int .u8 1, .int .u8 (m % 256)] 5)) fun e w' => ∃ v, e = .returned (.tuple #[v, .int .i64 (signC key m (ctB m).length)]) ∧ Own w' (wr.heap.size + 1) v (signR key m (ctB m)) ∧ Below (wr.heap.size + 1) ((wr.drewN n).alloc (.cells #[.int .u8 1, .int .u8 (m % 256)] 5)) w') :=
              Lib.hid (fun n => (p_Signed_any key m (some ⟨wr.heap.size, 0, none⟩) (ctB m) 2 (wr.heap.size + 1) ((wr.drewN n).alloc (.cells #[.int .u8 1, .int .u8 (m % 256)] 5)) (by simp) (Cells.fresh (wr.drewN n) ((ctB m).map bv) 5 (0, 0) _ hbv)).mono fun e w' h => by
                unfold SignPost at h
                have hz : ((wr.drewN n).alloc (.cells #[.int .u8 1, .int .u8 (m % 256)] 5)).heap.size = wr.heap.size + 1 := by simp
                rw [hz] at h
                exact h)
            have hsn := @sign_no key m
            have hso := @sign_ok key m hkb
            have hsr : signC key m (ctB m).length = 0 → signR key m (ctB m) = signL key m (ctB m) := fun h => by unfold signR; rw [if_pos h]
            have hsl : sgL key (ownF least (cs.take j) ++ [m]) = sgL key (ownF least (cs.take j)) ++ [signL key m (ctB m)] := by simp [sgL]
            have HSL := Lib.hid hsl
            clear hnx hm hbv hsl
            generalize signC key m (ctB m).length = C at *
            generalize signR key m (ctB m) = sr at *
            generalize signL key m (ctB m) = sl at *
            go_wp2_with fail
            go_quiet ((go_at_call 26; exact Calls.quiet_of_same ((HBL.out _).mono fun e w' h => ⟨h.1, h.2.symm⟩)))
            all_goals
              go_wp2_with fail
              refine (HSG.out _).mono ?_
              rintro e w4 ⟨v4, rfl, ho4, hb4⟩
              have hb14 : Below wr.heap.size wr w4 := ((below_draws (Below.refl _ wr) nq).alloc (Nat.le_refl _) (.cells #[.int .u8 1, .int .u8 (m % 256)] 5)).trans (hb4.mono (Nat.le_succ _))
              have hz4 := hb14.size
              have hzr := hbr.size
              have hA4 := HA.out.after hb14
              have gK4 := HGK.out.below hb14 HGK.out.lt
              have B4 := hbr.trans (hb14.mono hbr.size)
              have hP := hA4.base
              by_cases hcm : ctrB m = true
              · have hC0 := hso hcm
                subst hC0
                have hsr1 := hsr rfl
                subst hsr1
                obtain ⟨X4, k4, rfl, hr4, hf4, hlk4⟩ := ho4.form5
                have hlB := fun k (e : u5.ownBlock = some k) => (World.ownsRow.lt HA.out.bods.choose_spec.2.1 k e)
                have hlF := fun k (e : u6.ownBlock = some k) => (World.ownsRow.lt HA.out.faults k e)
                have hPr := HA.out.base
                have hF4 : sr ≠ [] → ∀ ad, X4 = some ad → w.heap.size + 1 ≤ ad.block ∧ u5.ownBlock ≠ some ad.block ∧ u6.ownBlock ≠ some ad.block := fun _ ad e => by
                  have := hf4 ad e
                  exact ⟨by omega, fun q => by have := (hlB _ q).2; omega, fun q => by have := (hlF _ q).2; omega⟩
                have b7 : Below w4.heap.size w4 (w4.alloc (.cells #[.slice X4 sr.length k4] 24)) := (Below.refl _ _).alloc (Nat.le_refl _) _
                have HA7 := Lib.hid (hA4.after b7)
                have HR7 := Lib.hid ((hr4.below b7).lift b7.size)
                have HF4 := Lib.hid hF4
                have HB7 := Lib.hid (B4.trans (b7.mono (by omega)))
                have HGK4 := Lib.hid (gK4.alloc (.cells #[.slice X4 sr.length k4] 24))
                have hql : (sgL key (ownF least (cs.take j))).length ≤ 100000 := by simp [sgL]; omega
                have hol2 : (ownF least (cs.take j)).length ≤ 100000 := by omega
                have HCM := Lib.hid hcm
                clear hA4 gK4 B4 hr4 hf4 hF4 hlB hlF ho4 b7 hcm hso hsn p0 p1 p2
                go_wp2_with (first
                  | (at_builtin; refine wpList_allB rfl (.tmp 48) (.tmp 50) rfl HA7.out rfl (w4.heap.size + 1) _ _ X4 sr k4 rfl (Cells.fresh w4 _ 24 _ _ rfl) hlk4 HR7.out HF4.out hql ?_; intro v7 w7 hA7 hb7 _ _)
                  | (at_builtin; refine wpList_allF rfl (.tmp 52) (.tmp 54) rfl (hA7.after ((Below.refl _ _).alloc (Nat.le_refl _) _)) rfl (w7.heap.size + 1) _ _ m rfl (Cells.fresh w7 _ 3 _ _ rfl) hol2 ?_; intro v8 w8 hA8 hb8 _ _)
                  | fail)
                go_roundw
                case rel =>
                  have hb78 := hb7.trans (((Below.refl _ _).alloc (by have := hA7.base; exact this) (.cells #[.int .i64 m] 3)).trans hb8)
                  refine ⟨j + 1, by omega, by omega, by go_num, ?_, HGK4.out.below hb78 (by omega), HB7.out.trans (hb78.mono (by omega))⟩
                  rw [HNX.out, if_pos HCM.out, HSL.out]
                  exact hA8
                case measure => simp [intOf]; omega
              · have hC1 := hsn hcm
                subst hC1
                have HCM := Lib.hid hcm
                have HA4 := Lib.hid hA4
                clear hcm hso hsn p0 p1 p2 hA4 ho4
                go_wp2_with fail
                go_roundw
                case rel =>
                  refine ⟨j + 1, by omega, by omega, by go_num, ?_, gK4, B4⟩
                  rw [HNX.out, if_neg HCM.out, List.append_nil]
                  exact HA4.out
                case measure => simp [intOf]; omega
          · have i2 : ¬ (j : Int) < 100 := by omega
            go_wp2_with fail
            go_meet
            exact ⟨_, hoc, by omega, hA, gK, hbr⟩
        · have i1 : ¬ (j : Int) < (cs.length : Int) := by omega
          go_wp2_with fail
          go_meet
          exact ⟨_, hoc, by omega, hA, gK, hbr⟩
    case rest =>
      obtain ⟨own, ho, hol, hA, gK, hbc⟩ := hcut
      obtain ⟨AB, cB, hsB, hKR⟩ := hA.kr
      have hsl : (sgL key own).length = own.length := by simp [sgL]
      have HOP := p_oall_any key least SA l sc AB (sgL key own) cB wc.heap.size wc (Nat.le_refl _) hll hSn (by omega) ((hS.below hbc).lift hbc.size) hKR
      rw [hsl] at hsB HOP
      subst hsB
      rw [show oallF key least l own.length = 0 from HQ0.out _ (by omega), show oallR key least l (sgL key own) = (key, ctS key least l own own.length) by unfold oallR; rw [hsl, if_pos (HQ0.out _ (by omega)), ct_all]] at HOP
      obtain ⟨A6, c6, hs6, hr6, hlc6, -, -, -⟩ := hA.faults.form2
      subst hs6
      have hfa := ct_faults key least l own own.length (Nat.le_refl _)
      have hfl : (ctS key least l own own.length).faults.length = own.length := by rw [hfa]; simp
      obtain ⟨hinv, hbo⟩ := ct_inv key least l own hkb ho own.length (Nat.le_refl _)
      have hcol := ctO_len key least l own own.length
      unfold AllPost kyV at HOP
      simp only [hfl, hfa] at HOP
      have HOP := Lib.hid HOP
      generalize (ctS key least l own own.length).bodies = bds at *
      generalize (ctS key least l own own.length).least = lst at *
      generalize (ctS key least l own own.length).seen = sn at *
      obtain ⟨NB, hNB⟩ : ∃ NB, bds.length = NB := ⟨_, rfl⟩
      rw [hNB] at HOP hbo
      obtain ⟨p0, p1, p2⟩ := blk_k gK
      have hgl := gK.lt
      have HNEW := Lib.hid (fun j hj h => ct_new (key := key) (least := least) (l := l) hkb ho j hj h)
      have hSc := (hS.below hbc).lift hbc.size
      clear hA hKR hfl hfa hinv hA0 g1 B1 hb1 hz1
      go_wp2_with fail
      refine HOP.out.mono ?_
      rintro e w5 ⟨A7, c7, AB7, cB7, AF7, cF7, rfl, hi7, hq7, hf7, hb5⟩
      obtain ⟨w6, hw6⟩ : ∃ w6, w5.alloc (.cells (kyC key lst (.slice A7 sn.length c7)) 58) = w6 := ⟨_, rfl⟩
      have b6 : Below w5.heap.size w5 w6 := by rw [← hw6]; exact (Below.refl _ _).alloc (Nat.le_refl _) _
      have hb6 := hb5.trans (b6.mono hb5.size)
      have B6 := hbc.trans (hb6.mono hbc.size)
      have gK6 := gK.below hb6 gK.lt
      have hr66 := (hr6.below hb6).lift hb6.size
      have hf66 := (hf7.below b6).lift b6.size
      have hS6 := (hSc.below hb6).lift hb6.size
      have hgl6 := gK6.lt
      unfold kyC at hw6
      have HW6 := Lib.hid hw6
      clear p0 p1 p2 hw6 HOP hr6 hf7 hSc hi7 hq7 gK
      go_upto_block 2 with fail
      rw [HW6.out]
      go_wp2_with fail
      go_loopw [15, 76] (fun s15 i wr => ∃ j : Nat, j ≤ own.length ∧ i = .int .i64 j ∧ OwnI wr w6.heap.size s15 (ctO key least l own j) ∧ Below w6.heap.size w6 wr) (fun _ i _ => own.length - (intOf i).toNat)
      case atStart => exact ⟨0, Nat.zero_le _, rfl, OwnI.nil _ _, Below.refl _ _⟩
      case round =>
        obtain ⟨j, hj, rfl, hO, hbr⟩ := hrel
        have gKr := gK6.below hbr gK6.lt
        have hzr := hbr.size
        have Br := B6.trans (hbr.mono B6.size)
        have hOl := ctO_len key least l own j
        by_cases hlt : j < own.length
        · obtain ⟨ad, hA1, hbk, hc⟩ := ct_get key least l own (hf66.below hbr) j hlt
          subst hA1
          obtain ⟨ad6, hA6, hbk6, hc6⟩ := (hr66.below hbr).get j hlt
          subst hA6
          have hi0 : (0 : Int) ≤ (j : Int) := by omega
          have hi1 : (j : Int) < (own.length : Int) := by omega
          have HN := Lib.hid (HNEW.out j hlt)
          have hnx := ctO_next key least l own j hlt
          obtain ⟨A5, c5, hs15, hr5, -, -, -, -⟩ := hO.form2
          subst hs15
          have hnew := HN.out
          generalize ctF key least l own j = f at *
          by_cases hf : f = 0
          · subst hf
            obtain ⟨n1, n2⟩ := hnew rfl
            rw [if_pos rfl] at hnx
            have HC1 : Hid (∀ n, Calls Try.prog 37 #[.slice A5 (ctO key least l own j).length c5, .int .i64 own[j]] (wr.drewN n) fun e w' => e = .returned (.bool false) ∧ w' = wr.drewN n) := Lib.hid (fun n => (contains_any A5 c5 (ctO key least l own j) own[j] wr.heap.size (wr.drewN n) (by omega) hr5).mono fun e w' h => ⟨by rw [h.1, decide_eq_false n1], h.2.symm⟩)
            have HC2 : Hid (∀ n, Calls Try.prog 37 #[.slice SA l.length sc, .int .i64 own[j]] (wr.drewN n) fun e w' => e = .returned (.bool false) ∧ w' = wr.drewN n) := Lib.hid (fun n => (contains_any SA sc l own[j] wr.heap.size (wr.drewN n) (by omega) ((hS6.below hbr).lift hbr.size)).mono fun e w' h => ⟨by rw [h.1, decide_eq_false n2], h.2.symm⟩)
            have HNX := Lib.hid hnx
            have HOO := Lib.hid hO
            have HON := Lib.hid (fun n => OwnI.after hO (below_draws (Below.refl wr.heap.size wr) n) (Nat.le_refl _))
            clear hnx n1 n2 hnew hO hr5
            generalize own[j] = m at *
            generalize ctO key least l own j = O at *
            obtain ⟨p0, p1, p2⟩ := blk_k gKr
            go_upto_region 22 with fail
            go_quiet ((first
              | (go_at_call 37; with_reducible exact Calls.quiet_of_same (HC1.out _))
              | (go_at_call 37; with_reducible exact Calls.quiet_of_same (HC2.out _))))
            all_goals
              go_wp2_with (first
                | (at_builtin; refine wpList_app _ rfl (.tmp 98) (.tmp 103) 56 3 1 8 rfl elemI w6.heap.size (.slice A5 O.length c5) O.length (O.map iv) rfl (World.ownsRow.alloc (HON.out nq) _) (wr.heap.size + 1) _ 1 1 ([m].map iv) rfl rfl (Cells.fresh (wr.drewN nq) _ 3 _ _ rfl) (iv_one _) (by unfold maxLen; omega) (by omega) (by simp; omega) ?_; intro v7 w7 hown7 hgrow7 hat7)
                | fail)
              go_roundw
              case rel => exact ⟨j + 1, by omega, by go_num, by rw [HNX.out]; exact OwnI.of hown7 rfl, ((below_draws hbr nq).alloc hzr _).grown hgrow7 (by simp; omega) (fun k hk => (World.ownsRow.lt HOO.out k hk).1)⟩
              case measure => simp [intOf]; omega
          · have d1 : (f != 0) = true := by simpa using hf
            rw [if_neg hf, List.append_nil] at hnx
            have HNX := Lib.hid hnx
            clear hnx hnew
            go_wp2_with fail
            go_roundw
            case rel => exact ⟨j + 1, by omega, by go_num, by rw [HNX.out]; exact hO, hbr⟩
            case measure => simp [intOf]; omega
        · have hjj : j = own.length := by omega
          subst hjj
          obtain ⟨A5, c5, hs15, hr5, -, -, -, -⟩ := hO.form2
          subst hs15
          clear hO hr5
          go_wp2_with fail
          refine (HAW.out _).mono ?_
          rintro e w8 ⟨rfl, hb8⟩
          go_wp2_with fail
          go_ret
          exact ⟨rfl, Br.trans (hb8.mono Br.size)⟩
  · have dq : (Q != 0) = true := by simpa using hq
    go_wp2_with fail
    refine (HAW.out _).mono ?_
    rintro e w2 ⟨rfl, hb2⟩
    go_wp2_with fail
    go_ret
    exact ⟨rfl, B1.trans (hb2.mono B1.size)⟩

set_option maxHeartbeats 1600000 in
set_option maxRecDepth 100000 in
theorem ctr_lifted (os : Os) (started : os.Started) (H : Type) (enc : TypeId × Value → H) :
    ReturnsInHanded {} Try.checked os 12 .any (Rows.commandNoCounterTwiceSpec.pre6 enc Try.prog Try.f12 Rows.commandNoCounterTwiceRow.domain false) (Rows.commandNoCounterTwiceSpec.post enc Try.prog Try.f12 false true false false) := by
  refine returnsInHanded_of_change (C := Try.checked) own started (by kernel_rfl) Try.func12
    (ChangeSpec.witness6 (enc := enc) (C := Try.checked) false ⟨#[], #[.agg #[.int .i64 0, .int .i64 0, .slice none 0 0], .slice none 0 0], []⟩ 8 (by kernel_rfl) (by kernel_rfl) (by kernel_rfl) (by kernel_rfl)) ?_
  intro W base args ds gs before hval0 hW _ _
  have hval : ∀ (j : Nat) t v, Try.f12.params[j]? = some t → args[j]? = some v → Value.okWide Try.prog W .any base t v := hval0
  have hW' := hW
  have hlt := fun x hx => hW'.lt x hx
  obtain ⟨p, q, hA0, hV, rfl, _, _⟩ := hW
  have hA : DataW.TrodAll enc Try.prog W 0 (fun _ => true) true Try.f12.params.toList args.toList ds p := hA0
  rw [Try.params12] at hA hval
  obtain ⟨v0, v1, d0, d1, p0, p1, rfl, rfl, rfl, h0, h1⟩ := trodAll_two hA
  obtain ⟨rfl, rfl⟩ := trodVars_none hV
  obtain ⟨kyk, lsk, Ak, lk, ck, rfl, hkyk, hlsk, hlck, hck, hnk, hBk⟩ := open_keys (fun x hx => hlt x (by simp [hx])) (hval 0 58 v0 rfl rfl) h0
  obtain ⟨Ab', lenb, capb, rfl⟩ := okWide_slice Try.underlying56 (hval 1 56 v1 rfl rfl)
  obtain ⟨nb, hnb⟩ := h1
  obtain ⟨Ab, cb, b, hvb, hlcb, hcb, hBb, hIb⟩ := open_is (fun x hx => hlt x (by simp [hx])) hnb
  rw [hvb] at hW' ⊢
  refine (lawCtr_any kyk lsk Ak lk ck Ab b cb W (by have := hlck; have := hck; unfold maxLen at *; omega) hnk (by have := hlcb; have := hcb; unfold maxLen at *; omega) hIb hBk hBb).mono fun e W' ⟨he, hb⟩ => ?_
  subst he
  exact ⟨_, rfl, law_post (by decide +kernel) rfl rfl hW' rfl hb⟩

set_option maxRecDepth 100000 in
theorem ctr_closed : joinedFacts Try.prog 12 Try.f12 Rows.commandNoCounterTwiceSpec Rows.commandNoCounterTwiceRow = true :=
  closed_all (by as_aux_lemma => kernel_rfl) (by as_aux_lemma => kernel_rfl) (by as_aux_lemma => kernel_rfl) (by as_aux_lemma => kernel_rfl) (by as_aux_lemma => kernel_rfl) (by as_aux_lemma => kernel_rfl) (by as_aux_lemma => kernel_rfl) (by as_aux_lemma => kernel_rfl) (by as_aux_lemma => kernel_rfl) (by as_aux_lemma => kernel_rfl) (by as_aux_lemma => kernel_rfl) (by as_aux_lemma => kernel_rfl) (by as_aux_lemma => kernel_rfl) (by as_aux_lemma => kernel_rfl) (by as_aux_lemma => kernel_rfl) (by as_aux_lemma => kernel_rfl) (by as_aux_lemma => kernel_rfl) (by as_aux_lemma => kernel_rfl) pKeys (by as_aux_lemma => kernel_rfl) pLifts pMake (by as_aux_lemma => kernel_rfl) (by as_aux_lemma => kernel_rfl) (by as_aux_lemma => kernel_rfl) (by as_aux_lemma => kernel_rfl)

theorem ctr_holds : Rows.CommandNoCounterTwiceSaid :=
  OpenClaim.holds_of_wide 12 Try.f12 rfl rfl rfl rfl rfl rfl rfl ⟨rfl, rfl, rfl, rfl, rfl⟩ rfl rfl rfl rfl rfl (by kernel_rfl) Try.func12 ctr_closed
    (of_decide_eq_true (by kernel_rfl)) (by unfold Func.isWrapper; first | (rw [if_pos (by decide +kernel)]; kernel_rfl) | (rw [if_neg (by decide +kernel)]; exact ⟨rfl, rfl⟩))
    (fun os started H enc _ => ctr_lifted os started H enc)
#print axioms ctr_holds
end Go.Proofs.Yteikggieekhfkaa
