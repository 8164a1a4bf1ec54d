/- OpenedAll answers as the reference does: the law CommandOpenedAllMatchesSpec answers true for every input. No condition. -/
import Derived.Test.YteikggieekhfkaaKeyOpen
import Derived.Test.YteikggieekhfkaaOpenRow2
import Derived.Test.YteikggieekhfkaaPOall
import Derived.Test.YteikggieekhfkaaROall
import Derived.Test.YteikggieekhfkaaSameK
import Derived.Test.YteikggieekhfkaaSame2
import Derived.Test.YteikggieekhfkaaAwk
import Derived.Test.YteikggieekhfkaaClosed
namespace Go.Proofs.Yteikggieekhfkaa
open Go.ChangeShapes Go.WideShapes Go.ChangeAt Go.RowKit

def BdIn2 (W : World) (x : Bd) : Prop := ∃ l : List UInt8, x.n = l.length ∧ BR W W.heap.size x.A l ∧ l.length ≤ x.k ∧ x.k ≤ maxLen
set_option maxRecDepth 100000 in
theorem bd_of2 {H : Type} {enc : TypeId × Value → H} {W : World} {sp : Nat → Bool} {held : Bool} {n : Nat} {cs : List Value} {x : DataW H × List MemPlace}
    (h : DataW.trod enc Try.prog W 0 sp held n 24 cs = some x) (hlt : ∀ p ∈ x.2, p.block < W.heap.size) : ∃ m : Bd, cs = m.cells ∧ BdIn2 W m := by
  obtain ⟨v, rfl⟩ : ∃ v, cs = [v] := by
    rcases open_ints Try.underlying24 Try.underlying5 cells5 h with ⟨hcs, _⟩ | ⟨a, len, cap, zs, hcs, _⟩
    · exact ⟨_, hcs⟩
    · exact ⟨_, hcs⟩
  obtain ⟨A, q, l, rfl, hlc, hc, hA⟩ := open_u8s hlt h
  exact ⟨⟨A, l.length, q⟩, rfl, l, rfl, hA, hlc, hc⟩
set_option maxRecDepth 100000 in
/-- Bodies that came in, each with its room. -/
theorem open_kss {H : Type} {enc : TypeId × Value → H} {W : World} {sp : Nat → Bool} {held : Bool} {n : Nat} {v : Value} {y : DataW H × List MemPlace}
    (hlt : ∀ x ∈ y.2, x.block < W.heap.size) (h : DataW.trod enc Try.prog W 0 sp held n 39 [v] = some y) :
    ∃ (A : Option Addr) (c : Nat) (q : List (List UInt8)), v = .slice A q.length c ∧ q.length ≤ c ∧ c ≤ maxLen ∧ KR W W.heap.size A q ∧ True ∧ True := by
  obtain ⟨A, c, ds, hv, hlc, hc, hS, hP, hd⟩ := open_row Bd.cells 1 Bd.one (by omega) Try.underlying39 cellsBytes (BdIn2 W) (fun h hl => bd_of2 h hl) hlt h
  have hex : ∀ i, i < ds.length → ∃ x : List UInt8, ∀ h : i < ds.length, ds[i].n = x.length ∧ BR W W.heap.size ds[i].A x ∧ x.length ≤ ds[i].k ∧ ds[i].k ≤ maxLen := by
    intro i hi
    obtain ⟨l, h1, h2, h3, h4⟩ := hP _ (List.getElem_mem hi)
    exact ⟨l, fun _ => ⟨h1, h2, h3, h4⟩⟩
  obtain ⟨g, hg⟩ := Go.Deep.choose_lt (α := List UInt8) (p := fun i x => ∀ h : i < ds.length, ds[i].n = x.length ∧ BR W W.heap.size ds[i].A x ∧ x.length ≤ ds[i].k ∧ ds[i].k ≤ maxLen) hex
  have hlen : ((List.range ds.length).map g).length = ds.length := by simp
  refine ⟨A, c, (List.range ds.length).map g, by rw [hlen]; exact hv, by omega, hc, ⟨ds, hlen.symm, hS, fun i hi hi' => ?_⟩, trivial, trivial⟩
  simpa using hg i hi' hi'
theorem oall_sm (key least : Int) (l : List Int) (L : List (List UInt8)) : (oallR key least l L).2.bodies.length ≤ 2000 ∧ (∀ x ∈ (oallR key least l L).2.bodies, x.length ≤ 200) ∧ (oallR key least l L).2.faults.length ≤ 2000 ∧ (oallR key least l L).2.seen.length ≤ 64 := by
  unfold oallR
  by_cases h : oallF key least l L.length = 0
  · rw [if_pos h]
    unfold oallF at h
    by_cases hk : keysS key least l = 0
    · rw [if_pos hk] at h
      by_cases h2 : 2000 < L.length
      · rw [if_pos h2] at h; simp at h
      · have hok := oa_ok key least l ((keys_zero key least l).1 hk).2 L L.length (Nat.le_refl _)
        rw [List.take_length] at hok
        obtain ⟨a, b, c, d⟩ := hok
        exact ⟨by show (oaAll key least l L).bodies.length ≤ 2000; omega, d, by show (oaAll key least l L).faults.length ≤ 2000; omega, a.2.2.1⟩
    · rw [if_neg hk] at h; exact absurd h hk
  · rw [if_neg h]; simp
set_option maxRecDepth 100000 in
set_option maxHeartbeats 4000000 in
theorem lawOAll_any (key least : Int) (SA : Option Addr) (l : List Int) (sc : Nat) (A : Option Addr) (L : List (List UInt8)) (c : Nat) (w : World) (hll : l.length ≤ 9223372036854775807) (hSn : SA = none → sc = 0) (hLl : L.length ≤ 9223372036854775807) (hS : IR w w.heap.size SA l) (hQ : KR w w.heap.size A L) :
    Calls Try.prog 11 #[kyV key least (.slice SA l.length sc), .slice A L.length c] w fun e w' => e = .returned (.bool true) ∧ Below w.heap.size w w' := by
  obtain ⟨w0, hw0⟩ : ∃ w0, w.alloc (.cells (kyC key least (.slice SA l.length sc)) 58) = w0 := ⟨_, rfl⟩
  have b0 : Below w.heap.size w w0 := by rw [← hw0]; exact (Below.refl _ _).alloc (Nat.le_refl _) _
  have g0 : Blk w0 w.heap.size (kyC key least (.slice SA l.length sc)) 58 := by rw [← hw0]; exact Blk.new w _ _
  have HOP := Lib.hid (p_oall_any key least SA l sc A L c w.heap.size w0 b0.size hll hSn hLl (hS.below b0) (hQ.below b0))
  have HOR := Lib.hid (fun w1 (h1 : Below w0.heap.size w0 w1) => r_oall_any key least SA l sc A L c w.heap.size w1 (Nat.le_trans b0.size h1.size) hll hSn hLl ((hS.below b0).below (h1.mono b0.size)) ((hQ.below b0).below (h1.mono b0.size)))
  obtain ⟨m1, m2, m3, m4⟩ := oall_sm key least l L
  have HAW := Lib.hid awake_any
  unfold AllPost at HOP HOR
  unfold kyV at HOP HOR ⊢
  generalize oallF key least l L.length = F at *
  generalize oallR key least l L = R at *
  obtain ⟨k1, a, r, q, fs⟩ := R
  simp only at HOP HOR m1 m2 m3 m4
  have M2 := Lib.hid (fun y hy => by have := m2 y hy; omega : ∀ y ∈ q, y.length ≤ 9223372036854775807)
  have dF : (F == F) = true := by simp
  unfold kyC at hw0
  have HW0 := Lib.hid hw0
  obtain ⟨p0, p1, p2⟩ := blk_k g0
  clear hw0 hS hQ m2
  go_enter Try.func11, Try.ntmps11
  go_upto_region 1 with fail
  rw [HW0.out]
  go_wp2_with fail
  refine HOP.out.mono ?_
  rintro e w1 ⟨A1, c1, AB1, cB1, AF1, cF1, rfl, i1, j1, f1, hb1⟩
  obtain ⟨wa, hwa⟩ : ∃ wa, w1.alloc (.cells (kyC k1 a (.slice A1 r.length c1)) 58) = wa := ⟨_, rfl⟩
  have ba : Below w1.heap.size w1 wa := by rw [← hwa]; exact (Below.refl _ _).alloc (Nat.le_refl _) _
  have gx : Blk wa w1.heap.size (kyC k1 a (.slice A1 r.length c1)) 58 := by rw [← hwa]; exact Blk.new w1 _ _
  have hba := hb1.trans (ba.mono hb1.size)
  have g1 := g0.below hba g0.lt
  have i1 := (i1.below ba).lift ba.size
  have j1 := (j1.below ba).lift ba.size
  have f1 := (f1.below ba).lift ba.size
  have B1 := b0.trans (hba.mono b0.size)
  unfold kyC at hwa
  have HWA := Lib.hid hwa
  have HO2 := Lib.hid (HOR.out wa hba)
  clear p0 p1 p2 hwa HOP HOR
  obtain ⟨p0, p1, p2⟩ := blk_k g1
  go_upto_region 2 with fail
  rw [HWA.out]
  go_wp2_with fail
  refine HO2.out.mono ?_
  rintro e w2 ⟨A2, c2, AB2, cB2, AF2, cF2, rfl, i2, j2, f2, hb2⟩
  obtain ⟨wb, hwb⟩ : ∃ wb, w2.alloc (.cells (kyC k1 a (.slice A2 r.length c2)) 58) = wb := ⟨_, rfl⟩
  have bb : Below w2.heap.size w2 wb := by rw [← hwb]; exact (Below.refl _ _).alloc (Nat.le_refl _) _
  have gy : Blk wb w2.heap.size (kyC k1 a (.slice A2 r.length c2)) 58 := by rw [← hwb]; exact Blk.new w2 _ _
  have hbb := hb2.trans (bb.mono hb2.size)
  have gx2 := gx.below hbb gx.lt
  have B2 := B1.trans (hbb.mono B1.size)
  have hz := hbb.size
  have HEQ := Lib.hid (equalI_yes AF1 AF2 cF1 cF2 fs wb.heap.size wb (by omega) ((f1.below hbb).lift hz) ((f2.below bb).lift bb.size))
  have HSB := Lib.hid (fun (w3 : World) (hb : Below wb.heap.size wb w3) => sameBodies_yes AB1 AB2 q cB1 cB2 wb.heap.size w3 hb.size (by omega) M2.out (((j1.below hbb).lift hz).below hb) (((j2.below bb).lift bb.size).below hb))
  have HSK := Lib.hid (fun w3 (h3 : Below wb.heap.size wb w3) => sameKeys_yes k1 a A1 A2 c1 c2 r wb.heap.size w3 h3.size (by omega) (((i1.below hbb).lift hz).below h3) (((i2.below bb).lift bb.size).below h3))
  unfold kyV at HSK
  unfold kyC at hwb
  have HWB := Lib.hid hwb
  clear hwb p0 p1 p2 i1 j1 f1 i2 j2 f2 HO2
  go_upto_region 3 with fail
  rw [HWB.out]
  go_wp2_with fail
  refine HEQ.out.mono ?_
  rintro e w3 ⟨rfl, hb3⟩
  go_wp2_with fail
  refine (HSB.out w3 hb3).mono ?_
  rintro e w4 ⟨rfl, hb4⟩
  have hb34 := hb3.trans (hb4.mono hb3.size)
  have gx4 := gx2.below hb34 gx2.lt
  have gy4 := gy.below hb34 gy.lt
  obtain ⟨p0, p1, p2⟩ := blk_k gx4
  obtain ⟨q0, q1, q2⟩ := blk_k gy4
  go_wp2_with fail
  refine (HSK.out w4 hb34).mono ?_
  rintro e w5 ⟨rfl, hb5⟩
  have hb35 := hb34.trans (hb5.mono hb34.size)
  go_wp2_with fail
  refine (HAW.out _).mono ?_
  rintro e w6 ⟨rfl, hb6⟩
  go_wp2_with fail
  go_ret
  exact ⟨rfl, B2.trans ((hb35.trans (hb6.mono hb35.size)).mono B2.size)⟩

set_option maxHeartbeats 1600000 in
set_option maxRecDepth 100000 in
theorem oall_lifted (os : Os) (started : os.Started) (H : Type) (enc : TypeId × Value → H) :
    ReturnsInHanded {} Try.checked os 11 .any (Rows.commandOpenedAllMatchesSpecSpec.pre6 enc Try.prog Try.f11 Rows.commandOpenedAllMatchesSpecRow.domain false) (Rows.commandOpenedAllMatchesSpecSpec.post enc Try.prog Try.f11 false true false false) := by
  refine returnsInHanded_of_change (C := Try.checked) own started (by kernel_rfl) Try.func11
    (ChangeSpec.witness6 (enc := enc) (C := Try.checked) false ⟨#[], #[.agg #[.int .i64 0, .int .i64 0, .slice none 0 0], .slice none 0 0], []⟩ 8 (by kernel_rfl) (by kernel_rfl) (by kernel_rfl) (by kernel_rfl)) ?_
  intro W base args ds gs before hval0 hW _ _
  have hval : ∀ (j : Nat) t v, Try.f11.params[j]? = some t → args[j]? = some v → Value.okWide Try.prog W .any base t v := hval0
  have hW' := hW
  have hlt := fun x hx => hW'.lt x hx
  obtain ⟨p, q, hA0, hV, rfl, _, _⟩ := hW
  have hA : DataW.TrodAll enc Try.prog W 0 (fun _ => true) true Try.f11.params.toList args.toList ds p := hA0
  rw [Try.params11] at hA hval
  obtain ⟨v0, v1, d0, d1, p0, p1, rfl, rfl, rfl, h0, h1⟩ := trodAll_two hA
  obtain ⟨rfl, rfl⟩ := trodVars_none hV
  obtain ⟨kyk, lsk, Ak, lk, ck, rfl, hkyk, hlsk, hlck, hck, hnk, hBk⟩ := open_keys (fun x hx => hlt x (by simp [hx])) (hval 0 58 v0 rfl rfl) h0
  obtain ⟨Ab', lenb, capb, rfl⟩ := okWide_slice Try.underlying39 (hval 1 39 v1 rfl rfl)
  obtain ⟨nb, hnb⟩ := h1
  obtain ⟨Ab, cb, b, hvb, hlcb, hcb, hBb, hIb, hdb⟩ := open_kss (fun x hx => hlt x (by simp [hx])) hnb
  rw [hvb] at hW' ⊢
  refine (lawOAll_any kyk lsk Ak lk ck Ab b cb W (by have := hlck; have := hck; unfold maxLen at *; omega) hnk (by have := hlcb; have := hcb; unfold maxLen at *; omega) hBk hBb).mono fun e W' ⟨he, hb⟩ => ?_
  subst he
  exact ⟨_, rfl, law_post (by decide +kernel) rfl rfl hW' rfl hb⟩

set_option maxRecDepth 100000 in
theorem oall_closed : joinedFacts Try.prog 11 Try.f11 Rows.commandOpenedAllMatchesSpecSpec Rows.commandOpenedAllMatchesSpecRow = true :=
  closed_all (by as_aux_lemma => kernel_rfl) (by as_aux_lemma => kernel_rfl) (by as_aux_lemma => kernel_rfl) (by as_aux_lemma => kernel_rfl) (by as_aux_lemma => kernel_rfl) (by as_aux_lemma => kernel_rfl) (by as_aux_lemma => kernel_rfl) (by as_aux_lemma => kernel_rfl) (by as_aux_lemma => kernel_rfl) (by as_aux_lemma => kernel_rfl) (by as_aux_lemma => kernel_rfl) (by as_aux_lemma => kernel_rfl) (by as_aux_lemma => kernel_rfl) (by as_aux_lemma => kernel_rfl) (by as_aux_lemma => kernel_rfl) (by as_aux_lemma => kernel_rfl) (by as_aux_lemma => kernel_rfl) (by as_aux_lemma => kernel_rfl) pKeys (by as_aux_lemma => kernel_rfl) pLifts pMake (by as_aux_lemma => kernel_rfl) (by as_aux_lemma => kernel_rfl) (by as_aux_lemma => kernel_rfl) (by as_aux_lemma => kernel_rfl)

theorem oall_holds : Rows.CommandOpenedAllMatchesSpecSaid :=
  OpenClaim.holds_of_wide 11 Try.f11 rfl rfl rfl rfl rfl rfl rfl ⟨rfl, rfl, rfl, rfl, rfl⟩ rfl rfl rfl rfl rfl (by kernel_rfl) Try.func11 oall_closed
    (of_decide_eq_true (by kernel_rfl)) (by unfold Func.isWrapper; first | (rw [if_pos (by decide +kernel)]; kernel_rfl) | (rw [if_neg (by decide +kernel)]; exact ⟨rfl, rfl⟩))
    (fun os started H enc _ => oall_lifted os started H enc)
#print axioms oall_holds
end Go.Proofs.Yteikggieekhfkaa
