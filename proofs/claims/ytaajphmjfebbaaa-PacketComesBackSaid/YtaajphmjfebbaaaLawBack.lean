/- A packet is read of its bytes whatever stands behind them, and with one flipped bit behind the first six bytes it is damaged: the law PacketComesBack answers true for every input. No condition. -/
import Derived.Test.YtaajphmjfebbaaaFlip
import Derived.Test.YtaajphmjfebbaaaBelowN
import Derived.Test.YtaajphmjfebbaaaSame
import Derived.Test.YtaajphmjfebbaaaAwake
import Derived.Test.YtaajphmjfebbaaaClose
import Derived.Test.YtaajphmjfebbaaaClosed
import Derived.SizedLaws
namespace Go.Proofs.Ytaajphmjfebbaaa
open Go.ChangeShapes Go.WideShapes Go.ChangeAt Go.RowKit
attribute [local go_sem] setCell_draws alloc_draws

theorem readOwn_any (base : Nat) (v : Value) (l : List UInt8) (w : World) (h : Own w base v l) (hc : l.length ≤ 9223372036854775807) :
    Calls Try.prog 14 #[v] w (ReadPost w (readP l)) := by
  have hh := h
  rcases hh.2 with ⟨rfl, hn⟩ | ⟨g, cap, cur, rfl, hb, hg, hnc, hm, _⟩
  · have hl := List.eq_nil_of_length_eq_zero hn
    subst hl
    exact read_any none 0 [] w (by simp) (by simp) (.inl (by simp))
  · obtain ⟨A, c, e, hB⟩ := h.form
    injection e with e1 e2 e3
    subst e1
    subst e3
    exact read_any _ _ l w hnc (by unfold maxLen at hm; omega) hB

set_option maxRecDepth 100000 in
set_option maxHeartbeats 2000000 in
theorem back_bad (s : Int) (cm : Bool) (pt nm : Int) (A : Option Addr) (cap : Nat) (l : List UInt8) (M : Option Addr) (mn mc : Nat) (bit : Int) (w : World) (h : BR w w.heap.size A l) (hf : ckP s pt nm l.length ≠ 0) :
    Calls Try.prog 5 #[pv s cm pt nm A l.length cap, .slice M mn mc, .int .i64 bit] w fun e w' => e = .returned (.bool true) ∧ Below w.heap.size w w' := by
  have cb := fun (w' : World) (hb : Below w.heap.size w w') => bytes_any s cm pt nm A cap l w' ((h.below hb).lift hb.size)
  have ho : outBytes s cm pt nm l = [] := by unfold outBytes; rw [if_neg hf]
  rw [ho] at cb
  have hne : (ckP s pt nm l.length != 0) = true := by simpa using hf
  generalize ckP s pt nm l.length = F at *
  unfold pv at cb ⊢
  have CB := Lib.hid cb
  clear cb hf
  go_enter Try.func5, Try.ntmps5
  go_wp2_with fail
  refine (CB.out _ ((Below.refl _ _).alloc (Nat.le_refl _) _)).mono ?_
  rintro e w1 ⟨v1, rfl, ho1, hb1⟩
  have hbb : Below w.heap.size w w1 := ((Below.refl _ _).alloc (Nat.le_refl _) _).trans (hb1.mono (by simp))
  obtain ⟨A1, c1, rfl, -⟩ := ho1.form
  go_wp2_with fail
  refine (awake_any _).mono ?_
  rintro e w4 ⟨rfl, hb4⟩
  go_wp2
  go_ret
  exact ⟨rfl, hbb.trans (hb4.mono hbb.size)⟩
theorem belowN_z (x z : Int) (n : Nat) (w : World) (hz : Hid (z = (n : Int))) (h1 : 1 ≤ n) (h2 : n ≤ 1000000000000) (hx : -9223372036854775808 ≤ x ∧ x ≤ 9223372036854775807) :
    Calls Try.prog 19 #[.int .i64 x, .int .i64 z] w fun e w' => ∃ K : Nat, e = .returned (.int .i64 (K : Int)) ∧ K < n ∧ w = w' := by
  obtain rfl : z = (n : Int) := hz
  have a := Int.emod_nonneg x (show (n : Int) ≠ 0 by omega)
  have b := Int.emod_lt_of_pos x (show (0 : Int) < (n : Int) by omega)
  refine (belowN_any x n w h1 h2 hx).mono fun e w' ⟨he, hw⟩ => ⟨(x % (n : Int)).toNat, ?_, by omega, hw⟩
  rw [he]
  exact ret_int (by omega)

theorem concat_two (P : Option Addr) (c : Nat) (A1 A2 : Option Addr) (c1 c2 : Nat) (l1 l2 : List UInt8) (w : World) (hn : l1.length + l2.length ≤ 140737488355328)
    (hP : Cells w w.heap.size P [.slice A1 l1.length c1, .slice A2 l2.length c2]) (h1 : BR w w.heap.size A1 l1) (h2 : BR w w.heap.size A2 l2) :
    Calls Try.prog 17 #[.slice P 2 c] w fun e w' => ∃ v', e = .returned v' ∧ Own w' w.heap.size v' (l1 ++ l2) ∧ Below w.heap.size w w' := by
  have := concat_n P 2 c [(A1, c1, l1), (A2, c2, l2)] w rfl (by simp) (by simp [joined]; omega) hP (by
    intro p hp
    simp only [List.mem_cons, List.not_mem_nil, or_false] at hp
    rcases hp with rfl | rfl
    · exact h1
    · exact h2)
  simpa [joined] using this

theorem flip_val (X R : Nat) (hX : X < 256) (hR : R < 8) : ∃ m, m < 256 ∧ m ≠ 0 ∧ bits .xor .u8 (X : Int) (128 / 2 ^ R) = ((X ^^^ m : Nat) : Int) := by
  have h : ∃ m : Nat, m < 256 ∧ m ≠ 0 ∧ ((128 : Int) / 2 ^ R = (m : Int)) := by
    rcases (by omega : R = 0 ∨ R = 1 ∨ R = 2 ∨ R = 3 ∨ R = 4 ∨ R = 5 ∨ R = 6 ∨ R = 7) with rfl | rfl | rfl | rfl | rfl | rfl | rfl | rfl
    · exact ⟨128, by omega, by omega, by decide⟩
    · exact ⟨64, by omega, by omega, by decide⟩
    · exact ⟨32, by omega, by omega, by decide⟩
    · exact ⟨16, by omega, by omega, by decide⟩
    · exact ⟨8, by omega, by omega, by decide⟩
    · exact ⟨4, by omega, by omega, by decide⟩
    · exact ⟨2, by omega, by omega, by decide⟩
    · exact ⟨1, by omega, by omega, by decide⟩
  obtain ⟨m, h1, h2, h3⟩ := h
  refine ⟨m, h1, h2, ?_⟩
  rw [h3]
  exact u8_xor_nat X m hX h1
theorem flip_byte (x : UInt8) (R : Nat) (hR : R < 8) : ∃ y : UInt8, y ≠ x ∧ bits .xor .u8 (x.toNat : Int) (128 / 2 ^ R) = (y.toNat : Int) := by
  obtain ⟨m, h1, h2, h3⟩ := flip_val x.toNat R x.toNat_lt hR
  have hlt : x.toNat ^^^ m < 256 := Crc.xlt8 x.toNat_lt h1
  have hy : (UInt8.ofNat (x.toNat ^^^ m)).toNat = x.toNat ^^^ m := by
    rw [UInt8.toNat_ofNat']
    omega
  refine ⟨UInt8.ofNat (x.toNat ^^^ m), fun e => h2 ?_, by rw [hy]; exact h3⟩
  have e2 : x.toNat ^^^ m = x.toNat := by rw [← hy, e]
  have e3 : m ^^^ x.toNat = 0 ^^^ x.toNat := by rw [Nat.xor_comm, e2, Nat.zero_xor]
  exact xor_cancel e3

set_option maxRecDepth 100000 in
set_option maxHeartbeats 4000000 in
theorem back_good (s : Nat) (cm : Bool) (pt nm : Nat) (A : Option Addr) (cap : Nat) (l : List UInt8) (M : Option Addr) (mc : Nat) (mo : List UInt8) (bit : Int) (w : World) (h : BR w w.heap.size A l) (hM : BR w w.heap.size M mo)
    (h1 : s ≤ 2047) (h2 : pt ≤ 3) (h3 : nm ≤ 16383) (h4 : 1 ≤ l.length) (h5 : l.length ≤ 1000) (hm : mo.length ≤ 140737488351232) (hx : -9223372036854775808 ≤ bit ∧ bit ≤ 9223372036854775807) (hf : ckP s pt nm l.length = 0) :
    Calls Try.prog 5 #[pv s cm pt nm A l.length cap, .slice M mo.length mc, .int .i64 bit] w fun e w' => e = .returned (.bool true) ∧ Below w.heap.size w w' := by
  have cb := fun (w' : World) (hb : Below w.heap.size w w') => bytes_any s cm pt nm A cap l w' ((h.below hb).lift hb.size)
  have ho : outBytes s cm pt nm l = pBytes s cm pt nm l := by unfold outBytes; rw [if_pos hf]; simp
  have hrd := readP_bytes s cm pt nm l mo h1 h2 h3 h4 h5
  have hfl := readP_flip s cm pt nm l h1 h4 h5
  have hlen := pBytes_len s cm pt nm l
  rw [ho, hf] at cb
  clear ho hf
  generalize pBytes s cm pt nm l = P at *
  have hne : ((8 + (l.length : Int)) != (P.length : Int)) = false := by simp; omega
  have hPl : P.length ≤ 1008 := by omega
  have hPg : 9 ≤ P.length := by omega
  have HRD := Lib.hid hrd
  have HFL := Lib.hid hfl
  have HLEN := Lib.hid hlen
  clear hrd hfl hlen
  obtain ⟨W0, hW0⟩ : ∃ W0 : World, W0 = w.alloc (.cells #[.int .i64 s, .bool cm, .int .i64 pt, .int .i64 nm, .slice A l.length cap] 24) := ⟨_, rfl⟩
  have HW0 := Lib.hid hW0
  clear hW0
  unfold pv at cb ⊢
  have CB := Lib.hid cb
  clear cb
  go_enter Try.func5, Try.ntmps5
  go_wp2_with fail
  refine (CB.out _ ((Below.refl _ _).alloc (Nat.le_refl _) _)).mono ?_
  rintro e w1 ⟨v1, rfl, ho1, hb1⟩
  have hb1 : Below (w.heap.size + 1) W0 w1 := by rw [HW0.out]; simpa using hb1
  have hs1 : w.heap.size + 1 ≤ w1.heap.size := by have := hb1.size; rw [HW0.out] at this; simpa using this
  have hw1 : Below w.heap.size w w1 := by rw [HW0.out] at hb1; exact ((Below.refl _ _).alloc (Nat.le_refl _) _).trans (hb1.mono (by omega))
  obtain ⟨A1, c1, rfl, hB1⟩ := ho1.form
  go_wp2_with fail
  have e1 : Below w1.heap.size w1 (w1.alloc (.cells #[.slice A1 P.length c1, .slice M mo.length mc] 22)) := (Below.refl _ _).alloc (Nat.le_refl _) _
  refine (concat_two _ _ A1 M c1 mc P mo _ (by omega) ((Cells.fresh w1 _ _ (0, 0) _ rfl).lift (by simp)) ((hB1.below e1).lift e1.size) (((hM.below hw1).lift hw1.size).below e1 |>.lift e1.size)).mono ?_
  rintro e w2 ⟨v2, rfl, ho2, hc2⟩
  have e2 : Below w1.heap.size w1 w2 := e1.trans (hc2.mono (by simp))
  have hs2 : w.heap.size + 1 ≤ w2.heap.size := Nat.le_trans hs1 e2.size
  have hb2 : Below (w.heap.size + 1) W0 w2 := hb1.trans (e2.mono hs1)
  have hp2 : Own w2 _ (.slice A1 P.length c1) P := ho1.after e2 (Nat.le_refl _)
  clear ho1 hB1 e1 hc2
  go_wp2_with fail
  have hrd := readOwn_any _ v2 (P ++ mo) w2 ho2 (by simp; omega)
  rw [HRD.out] at hrd
  unfold ReadPost at hrd
  simp only at hrd
  refine hrd.mono ?_
  clear hrd ho2
  rintro e w3 ⟨A3, c3, rfl, ho3, hc3⟩
  have hs3 : w.heap.size + 1 ≤ w3.heap.size := Nat.le_trans hs2 hc3.size
  have hb3 : Below (w.heap.size + 1) W0 w3 := hb2.trans (hc3.mono hs2)
  have hp3 : Own w3 _ (.slice A1 P.length c1) P := hp2.after hc3 (Nat.le_refl _)
  have hw3 : Below w.heap.size w w3 := hw1.trans ((e2.trans (hc3.mono e2.size)).mono hw1.size)
  clear hp2 hc3 hb2 hb1 e2
  have hcell := fun k => Below.at_ hb3 w.heap.size (by omega) k
  rw [HW0.out] at hcell
  have hz3 : w.heap.size < w3.heap.size := by omega
  have hsame : ∀ o : Obj, Calls Try.prog 16 #[pv s cm pt nm A l.length cap, pv s cm pt nm A3 l.length c3] (w3.alloc o) fun e w' => e = .returned (.bool true) ∧ Below (w3.alloc o).heap.size (w3.alloc o) w' := by
    intro o
    have hb : Below w3.heap.size w3 (w3.alloc o) := (Below.refl _ _).alloc (Nat.le_refl _) _
    exact same_yes s cm pt nm A A3 cap c3 l (w3.alloc o) (by omega) (((h.below hw3).lift hw3.size).below hb |>.lift hb.size) (((Own.read ho3).2.below hb).lift hb.size)
  unfold pv at hsame ⊢
  have HS := Lib.hid hsame
  clear hsame ho3
  go_wp2_with fail
  refine (HS.out _).mono ?_
  rintro e w4 ⟨rfl, hc4⟩
  have e4 : Below w3.heap.size w3 w4 := ((Below.refl _ _).alloc (Nat.le_refl _) _).trans (hc4.mono (by simp))
  have hs4 : w.heap.size + 1 ≤ w4.heap.size := Nat.le_trans hs3 e4.size
  have hb4 : Below (w.heap.size + 1) W0 w4 := hb3.trans (e4.mono hs3)
  have hp4 : Own w4 _ (.slice A1 P.length c1) P := hp3.after e4 (Nat.le_refl _)
  clear hp3 hc4 hcell hz3 hb3 e4 HS
  go_wp2_with fail
  refine (clone_any A1 P.length c1 P w4 rfl (by omega) (Own.read hp4).2).mono ?_
  rintro e w5 ⟨v5, rfl, ho5, hc5⟩
  have hs5 : w.heap.size + 1 ≤ w5.heap.size := Nat.le_trans hs4 hc5.size
  have hb5 : Below (w.heap.size + 1) W0 w5 := hb4.trans (hc5.mono hs4)
  have ho5 := ho5.lower hs4
  clear hp4 hc5 hb4
  go_wp2_with fail
  refine (belowN_z bit _ (8 * (P.length - 6)) w5 (by unfold Hid; omega) (by omega) (by omega) hx).mono ?_
  rintro e w6 ⟨K, rfl, hK, rfl⟩
  have hform : ∃ g c5, v5 = .slice (some ⟨g, 0, none⟩) P.length c5 := by
    rcases ho5.2 with ⟨_, e⟩ | ⟨g, cap, _, e, _⟩
    · omega
    · exact ⟨g, cap, e⟩
  obtain ⟨g, c5, rfl⟩ := hform
  have hg5 : w.heap.size + 1 ≤ g := (ho5.lt g rfl).1
  have hI1 : 6 + K / 8 < P.length := by omega
  have hcl := World.ownsRow.cellAt ho5 (6 + K / 8) (by omega)
  have hfr := World.ownsRow.frozenAt ho5 (6 + K / 8)
  have hPI : (P.map bv)[6 + K / 8]? = some (.int .u8 (P[6 + K / 8].toNat : Int)) := by simp [hI1, bv]
  rw [hPI] at hcl
  clear hPI
  obtain ⟨Y, hY, hyv⟩ := flip_byte P[6 + K / 8] (K % 8) (by omega)
  have hst := World.ownsRow.stored ho5 (6 + K / 8) (bv Y)
  have hfl := HFL.out (6 + K / 8) hI1 (by omega) Y hY
  generalize P[6 + K / 8].toNat = X at *
  have HY := Lib.hid hyv
  have HST := Lib.hid hst
  clear hyv hst hY
  go_wp2_with fail
  go_region
  all_goals
    rw [HY.out]
    have ho7 : Own (w5.setCell ⟨g, 6 + K / 8, none⟩ (.int .u8 (Y.toNat : Int))).drew (w.heap.size + 1) (.slice (some ⟨g, 0, none⟩) P.length c5) (P.set (6 + K / 8) Y) := by
      have := HST.out.1
      unfold Own
      rw [List.length_set, List.map_set]
      exact this
    have hrd := readOwn_any _ _ _ _ ho7 (by simp; omega)
    rw [hfl] at hrd
    unfold ReadPost badRead at hrd
    simp only at hrd
    have hb7 : Below (w.heap.size + 1) W0 (w5.setCell ⟨g, 6 + K / 8, none⟩ (.int .u8 (Y.toNat : Int))).drew := (hb5.setCell (p := ⟨g, 6 + K / 8, none⟩) hg5 _).drew
    have hs7 : w.heap.size + 1 ≤ (w5.setCell ⟨g, 6 + K / 8, none⟩ (.int .u8 (Y.toNat : Int))).drew.heap.size := by simp; omega
    generalize (w5.setCell ⟨g, 6 + K / 8, none⟩ (.int .u8 (Y.toNat : Int))).drew = w7 at *
    clear ho7 hcl hfr
    go_wp2_with fail
    refine hrd.mono ?_
    rintro e w8 ⟨A8, c8, rfl, ho8, hc8⟩
    have hb8 : Below (w.heap.size + 1) W0 w8 := hb7.trans (hc8.mono hs7)
    clear hrd
    go_wp2_with fail
    refine (awake_any _).mono ?_
    rintro e w9 ⟨rfl, hb9⟩
    go_wp2
    go_ret
    have hb9 := hb8.trans (hb9.mono (Nat.le_trans hs7 hc8.size))
    rw [HW0.out] at hb9
    exact ⟨rfl, ((Below.refl _ _).alloc (Nat.le_refl _) _).trans (hb9.mono (by omega))⟩

set_option maxHeartbeats 800000 in
set_option maxRecDepth 100000 in
theorem lawBack_lifted (os : Os) (started : os.Started) (H : Type) (enc : TypeId × Value → H) :
    ReturnsInHanded {} Try.checked os 5 .any (Rows.packetComesBackSpec.pre6 enc Try.prog Try.f5 Rows.packetComesBackRow.domain false) (Rows.packetComesBackSpec.post enc Try.prog Try.f5 false true false false) := by
  refine returnsInHanded_of_change_sized (C := Try.checked) own started (by kernel_rfl) Try.func5
    (ChangeSpec.witness6 (enc := enc) (C := Try.checked) false ⟨#[], #[pv 0 false 0 0 none 0 0, .slice none 0 0, .int .i64 0], []⟩ 8 (by kernel_rfl) (by kernel_rfl) (by kernel_rfl) (by kernel_rfl)) ?_
  intro W base args ds gs before hval0 hW _ hsz0 _
  have hval : ∀ (j : Nat) t v, Try.f5.params[j]? = some t → args[j]? = some v → Value.okWide Try.prog W .any base t v := hval0
  have hW' := hW
  have hlt := fun x hx => hW'.lt x hx
  obtain ⟨p, q, hA0, hV, rfl, _, _⟩ := hW
  have hA : DataW.TrodAll enc Try.prog W 0 (fun _ => true) true Try.f5.params.toList args.toList ds p := hA0
  have hsz : (DataW.weightsEach Try.prog (Try.f5.params.toList ++ Rows.packetComesBackSpec.plain.varTypes Try.prog) (ds ++ gs)).all (· ≤ reachBytes) = true := hsz0
  rw [Try.params5] at hA hval hsz
  obtain ⟨v0, v1, v2, d0, d1, d2, p0, p1, p2, rfl, rfl, rfl, h0, h1, h2⟩ := trodAll_three hA
  obtain ⟨rfl, rfl⟩ := trodVars_none hV
  obtain ⟨s, cm, pt, nm, A, cap, l, rfl, -, -, hB⟩ := open_packet (fun x hx => hlt x (by simp [hx])) (hval 0 24 v0 rfl rfl) h0
  obtain ⟨A', len, cap', rfl⟩ := okWide_slice Try.underlying22 (hval 1 22 v1 rfl rfl)
  obtain ⟨n, hn⟩ := h1
  obtain ⟨M, mc, mo, hv, hlc, hc, hM, hd⟩ := open_u8d (fun x hx => hlt x (by simp [hx])) hn
  obtain ⟨bit, rfl, rfl, rfl, wf⟩ := open_int Try.underlying3 (hval 2 3 v2 rfl rfl) h2
  rw [hv] at hW' ⊢
  have hb := bounds_i64 wf
  have hm : mo.length ≤ 140737488351232 := by
    rcases hd with rfl | ⟨el, sp, e, hle⟩
    · simp
    · obtain rfl : d1 = .slice el sp := e
      have := sized_slice hsz (j := 1) (t := 22) (e := 5) (elems := el) (spare := sp) rfl rfl Try.underlying22
      rw [show Try.prog.bytesOf 5 = 1 by kernel_rfl] at this
      unfold reachBytes at this
      omega
  have fin : ∀ (e : Ending) (W' : World), (e = .returned (.bool true) ∧ Below W.heap.size W W') → ∃ v, e = .returned v ∧ Rows.packetComesBackSpec.post enc Try.prog Try.f5 false true false false W #[pv s cm pt nm A l.length cap, .slice M mo.length mc, .int .i64 bit] v W' := by
    rintro e W' ⟨rfl, hb⟩
    exact ⟨_, rfl, law_post (by decide +kernel) rfl rfl hW' rfl hb⟩
  by_cases hf : ckP s pt nm l.length = 0
  · obtain ⟨⟨a1, a2⟩, ⟨b1, b2⟩, ⟨c1, c2⟩, x1, x2⟩ := ckP_zero hf
    obtain ⟨S, rfl⟩ := nat_of a1
    obtain ⟨PT, rfl⟩ := nat_of b1
    obtain ⟨NM, rfl⟩ := nat_of c1
    exact (back_good S cm PT NM A cap l M mc mo bit W hB hM (by omega) (by omega) (by omega) (by omega) (by omega) hm hb hf).mono fun e W' h => fin e W' h
  · exact (back_bad s cm pt nm A cap l M mo.length mc bit W hB hf).mono fun e W' h => fin e W' h

set_option maxRecDepth 100000 in
theorem back_closed : joinedFacts Try.prog 5 Try.f5 Rows.packetComesBackSpec Rows.packetComesBackRow = true :=
  closed_all (by as_aux_lemma => kernel_rfl) (by as_aux_lemma => kernel_rfl) (by as_aux_lemma => kernel_rfl) (by as_aux_lemma => kernel_rfl) (by as_aux_lemma => kernel_rfl) (by as_aux_lemma => kernel_rfl) (by as_aux_lemma => kernel_rfl) (by as_aux_lemma => kernel_rfl) (by as_aux_lemma => kernel_rfl) (by as_aux_lemma => kernel_rfl) (by as_aux_lemma => kernel_rfl) (by as_aux_lemma => kernel_rfl) (by as_aux_lemma => kernel_rfl) (by as_aux_lemma => kernel_rfl) (by as_aux_lemma => kernel_rfl) (by as_aux_lemma => kernel_rfl) (by as_aux_lemma => kernel_rfl) (by as_aux_lemma => kernel_rfl) pKeys (by as_aux_lemma => kernel_rfl) pLifts pMake (by as_aux_lemma => kernel_rfl) (by as_aux_lemma => kernel_rfl) (by as_aux_lemma => kernel_rfl) (by as_aux_lemma => kernel_rfl)

theorem back_holds : Rows.PacketComesBackSaid :=
  OpenClaim.holds_of_wide 5 Try.f5 rfl rfl rfl rfl rfl rfl rfl ⟨rfl, rfl, rfl, rfl, rfl⟩ rfl rfl rfl rfl rfl (by kernel_rfl) Try.func5 back_closed
    (of_decide_eq_true (by kernel_rfl)) (by unfold Func.isWrapper; first | (rw [if_pos (by decide +kernel)]; kernel_rfl) | (rw [if_neg (by decide +kernel)]; exact ⟨rfl, rfl⟩))
    (fun os started H enc _ => lawBack_lifted os started H enc)
#print axioms back_holds
end Go.Proofs.Ytaajphmjfebbaaa
