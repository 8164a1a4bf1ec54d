/- Bytes and CheckPacket of every packet are as the reference gives them: the law PacketBytesMatchSpec answers true for every input. No condition. -/
import Derived.Test.YtaajphmjfebbaaaAwake
import Derived.Test.YtaajphmjfebbaaaEqual
import Derived.Test.YtaajphmjfebbaaaBytes
import Derived.Test.YtaajphmjfebbaaaClose
import Derived.Test.YtaajphmjfebbaaaClosed
namespace Go.Proofs.Ytaajphmjfebbaaa
open Go.ChangeShapes Go.WideShapes Go.ChangeAt Go.RowKit

theorem equalOwn_any (b b' : Nat) (v v' : Value) (l l' : List UInt8) (w : World) (hl : l.length ≤ 9223372036854775807) (hl' : l'.length ≤ 9223372036854775807) (h : Own w b v l) (h' : Own w b' v' l') :
    Calls Try.prog 12 #[v, v'] w fun e w' => e = .returned (.bool (decide (l = l'))) ∧ Below w.heap.size w w' := by
  obtain ⟨A, c, rfl, hB⟩ := h.form
  obtain ⟨A', c', rfl, hB'⟩ := h'.form
  exact equal_any A A' c c' l l' _ w hl hl' hB hB'
theorem outBytes_len (s : Int) (cm : Bool) (pt nm : Int) (l : List UInt8) : (outBytes s cm pt nm l).length ≤ 1008 := by
  unfold outBytes
  split
  · rename_i h
    have := ckP_zero h
    rw [pBytes_len]
    omega
  · simp

set_option maxRecDepth 100000 in
set_option maxHeartbeats 1000000 in
theorem lawBytes_any (s : Int) (cm : Bool) (pt nm : Int) (A : Option Addr) (cap : Nat) (l : List UInt8) (w : World) (h : BR w w.heap.size A l) :
    Calls Try.prog 3 #[pv s cm pt nm A l.length cap] w fun e w' => e = .returned (.bool true) ∧ Below w.heap.size w w' := by
  obtain ⟨W0, hW0⟩ : ∃ W0 : World, W0 = w.alloc (.cells #[.int .i64 s, .bool cm, .int .i64 pt, .int .i64 nm, .slice A l.length cap] 24) := ⟨_, rfl⟩
  have HW0 := Lib.hid hW0
  clear hW0
  have cb := bytes_any s cm pt nm A cap l
  have cr := rbytes_any s cm pt nm A cap l
  have c1 := check_any s cm pt nm A l.length cap
  have c2 := rcheck_any s cm pt nm A l.length cap
  have HL : Hid ((outBytes s cm pt nm l).length ≤ 9223372036854775807) := by unfold Hid; have := outBytes_len s cm pt nm l; omega
  generalize outBytes s cm pt nm l = O at *
  generalize ckP s pt nm l.length = F at *
  have CB := Lib.hid cb
  have CR := Lib.hid cr
  have C1 := Lib.hid c1
  have C2 := Lib.hid c2
  clear cb cr c1 c2
  unfold pv at CB CR C1 C2 ⊢
  go_enter Try.func3, Try.ntmps3
  go_wp2_with fail
  have h0 : BR (w.alloc (.cells #[.int .i64 s, .bool cm, .int .i64 pt, .int .i64 nm, .slice A l.length cap] 24)) (w.alloc (.cells #[.int .i64 s, .bool cm, .int .i64 pt, .int .i64 nm, .slice A l.length cap] 24)).heap.size A l := (h.below ((Below.refl _ _).alloc (Nat.le_refl _) _)).lift (by simp)
  refine (CB.out _ h0).mono ?_
  rintro e w1 ⟨v1, rfl, ho1, hb1⟩
  have hc1 := fun k => Below.at_ hb1 w.heap.size (by simp) k
  have hs1 : w.heap.size + 1 ≤ w1.heap.size := by have := hb1.size; simpa using this
  have h1 := (h0.below hb1).lift hb1.size
  have hbb1 : Below (w.heap.size + 1) W0 w1 := by rw [HW0.out]; simpa using hb1
  clear h0 hb1
  go_wp2_with fail
  refine (CR.out _ h1).mono ?_
  rintro e w2 ⟨v2, rfl, ho2, hb2⟩
  have hbb2 : Below (w.heap.size + 1) W0 w2 := hbb1.trans (hb2.mono hs1)
  have hs2 : w.heap.size + 1 ≤ w2.heap.size := by have := hb2.size; omega
  have ho1 := ho1.after hb2 (Nat.le_refl _)
  clear hc1 h1 hb2
  have hcell : ∀ k, w2.cell? ⟨w.heap.size, k, none⟩ = W0.cell? ⟨w.heap.size, k, none⟩ := fun k => Below.at_ hbb2 _ (by omega) k
  have f0 : w2.cell? ⟨w.heap.size, 0, none⟩ = some (.int .i64 s) := by rw [hcell, HW0.out]; simp [go_sem]
  have f1 : w2.cell? ⟨w.heap.size, 1, none⟩ = some (.bool cm) := by rw [hcell, HW0.out]; simp [go_sem]
  have f2 : w2.cell? ⟨w.heap.size, 2, none⟩ = some (.int .i64 pt) := by rw [hcell, HW0.out]; simp [go_sem]
  have f3 : w2.cell? ⟨w.heap.size, 3, none⟩ = some (.int .i64 nm) := by rw [hcell, HW0.out]; simp [go_sem]
  have f4 : w2.cell? ⟨w.heap.size, 4, none⟩ = some (.slice A l.length cap) := by rw [hcell, HW0.out]; simp [go_sem]
  clear hcell
  go_wp2_with fail
  go_region_held3 (fun w' => w'.cell? ⟨w.heap.size, 0, none⟩ = some (.int .i64 s) ∧ w'.cell? ⟨w.heap.size, 1, none⟩ = some (.bool cm) ∧ w'.cell? ⟨w.heap.size, 2, none⟩ = some (.int .i64 pt) ∧ w'.cell? ⟨w.heap.size, 3, none⟩ = some (.int .i64 nm) ∧ w'.cell? ⟨w.heap.size, 4, none⟩ = some (.slice A l.length cap))
     (first | go_keep | (refine ⟨?_, ?_, ?_, ?_, ?_⟩ <;> (rw [Below.at_ (a := W0) (by assumption) w.heap.size (by omega), HW0.out]; simp [go_sem]; done)))
     (first
      | (go_at_call 10
         refine (carry (b := w.heap.size + 1) (W0 := W0) (C1.out _) ?_ ?_).mono ?_
         · first | assumption | exact Below.drew (by assumption)
         · first | assumption | (simp; done)
         rintro e w3 ⟨rfl, hbb2, hs2, hk⟩
         have ho1 := hk _ _ _ ho1
         have ho2 := hk _ _ _ ho2)
      | (go_at_call 11
         refine (carry (b := w.heap.size + 1) (W0 := W0) (C2.out _) ?_ ?_).mono ?_
         · first | assumption | exact Below.drew (by assumption)
         · first | assumption | (simp; done)
         rintro e w3 ⟨rfl, hbb2, hs2, hk⟩
         have ho1 := hk _ _ _ ho1
         have ho2 := hk _ _ _ ho2)
      | (go_at_call 12
         refine (carry (b := w.heap.size + 1) (W0 := W0) (equalOwn_any _ _ _ _ _ _ _ HL.out HL.out ho1 ho2) ?_ ?_).mono ?_
         · first | assumption | exact Below.drew (by assumption)
         · first | assumption | (simp; done)
         rintro e w3 ⟨rfl, hbb2, hs2, hk⟩
         have ho1 := hk _ _ _ ho1
         have ho2 := hk _ _ _ ho2)
      | (go_at_call 13
         refine (carry (b := w.heap.size + 1) (W0 := W0) (awake_any _) ?_ ?_).mono ?_
         · first | assumption | exact Below.drew (by assumption)
         · first | assumption | (simp; done)
         rintro e w3 ⟨rfl, hbb2, hs2, hk⟩
         have ho1 := hk _ _ _ ho1
         have ho2 := hk _ _ _ ho2))
  go_wp2
  go_ret
  rw [HW0.out] at hbb2
  exact ⟨ret_bool (by simp), ((Below.refl _ _).alloc (Nat.le_refl _) _).trans (hbb2.mono (by omega))⟩

set_option maxHeartbeats 800000 in
set_option maxRecDepth 100000 in
theorem lawBytes_lifted (os : Os) (started : os.Started) (H : Type) (enc : TypeId × Value → H) :
    ReturnsInHanded {} Try.checked os 3 .any (Rows.packetBytesMatchSpecSpec.pre6 enc Try.prog Try.f3 Rows.packetBytesMatchSpecRow.domain false) (Rows.packetBytesMatchSpecSpec.post enc Try.prog Try.f3 false true false false) := by
  refine returnsInHanded_of_change (C := Try.checked) own started (by kernel_rfl) Try.func3
    (ChangeSpec.witness6 (enc := enc) (C := Try.checked) false ⟨#[], #[pv 0 false 0 0 none 0 0], []⟩ 8 (by kernel_rfl) (by kernel_rfl) (by kernel_rfl) (by kernel_rfl)) ?_
  intro W base args ds gs before hval0 hW _ _
  have hval : ∀ (j : Nat) t v, Try.f3.params[j]? = some t → args[j]? = some v → Value.okWide Try.prog W .any base t v := hval0
  have hW' := hW
  have hlt := fun x hx => hW'.lt x hx
  obtain ⟨p, q, hA0, hV, rfl, _, _⟩ := hW
  have hA : DataW.TrodAll enc Try.prog W 0 (fun _ => true) true Try.f3.params.toList args.toList ds p := hA0
  rw [Try.params3] at hA hval
  obtain ⟨v0, d0, rfl, rfl, h0⟩ := trodAll_one hA
  obtain ⟨rfl, rfl⟩ := trodVars_none hV
  obtain ⟨s, cm, pt, nm, A, cap, l, rfl, -, -, hB⟩ := open_packet (fun x hx => hlt x (by simpa using hx)) (hval 0 24 v0 rfl rfl) h0
  refine (lawBytes_any s cm pt nm A cap l W hB).mono fun e W' ⟨he, hb⟩ => ?_
  subst he
  exact ⟨_, rfl, law_post (by decide +kernel) rfl rfl hW' rfl hb⟩

set_option maxRecDepth 100000 in
theorem bytes_closed : joinedFacts Try.prog 3 Try.f3 Rows.packetBytesMatchSpecSpec Rows.packetBytesMatchSpecRow = true :=
  closed_all (by as_aux_lemma => kernel_rfl) (by as_aux_lemma => kernel_rfl) (by as_aux_lemma => kernel_rfl) (by as_aux_lemma => kernel_rfl) (by as_aux_lemma => kernel_rfl) (by as_aux_lemma => kernel_rfl) (by as_aux_lemma => kernel_rfl) (by as_aux_lemma => kernel_rfl) (by as_aux_lemma => kernel_rfl) (by as_aux_lemma => kernel_rfl) (by as_aux_lemma => kernel_rfl) (by as_aux_lemma => kernel_rfl) (by as_aux_lemma => kernel_rfl) (by as_aux_lemma => kernel_rfl) (by as_aux_lemma => kernel_rfl) (by as_aux_lemma => kernel_rfl) (by as_aux_lemma => kernel_rfl) (by as_aux_lemma => kernel_rfl) pKeys (by as_aux_lemma => kernel_rfl) pLifts pMake (by as_aux_lemma => kernel_rfl) (by as_aux_lemma => kernel_rfl) (by as_aux_lemma => kernel_rfl) (by as_aux_lemma => kernel_rfl)

theorem bytes_holds : Rows.PacketBytesMatchSpecSaid :=
  OpenClaim.holds_of_wide 3 Try.f3 rfl rfl rfl rfl rfl rfl rfl ⟨rfl, rfl, rfl, rfl, rfl⟩ rfl rfl rfl rfl rfl (by kernel_rfl) Try.func3 bytes_closed
    (of_decide_eq_true (by kernel_rfl)) (by unfold Func.isWrapper; first | (rw [if_pos (by decide +kernel)]; kernel_rfl) | (rw [if_neg (by decide +kernel)]; exact ⟨rfl, rfl⟩))
    (fun os started H enc _ => lawBytes_lifted os started H enc)
#print axioms bytes_holds
end Go.Proofs.Ytaajphmjfebbaaa
