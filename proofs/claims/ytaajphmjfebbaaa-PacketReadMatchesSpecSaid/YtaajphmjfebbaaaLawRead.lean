/- Read of every bytes is as the reference gives it: the law PacketReadMatchesSpec answers true for every input. No condition. -/
import Derived.Test.YtaajphmjfebbaaaRRead
import Derived.Test.YtaajphmjfebbaaaSame
import Derived.Test.YtaajphmjfebbaaaAwake
import Derived.Test.YtaajphmjfebbaaaClose
import Derived.Test.YtaajphmjfebbaaaClosed
namespace Go.Proofs.Ytaajphmjfebbaaa
open Go.ChangeShapes Go.WideShapes Go.ChangeAt Go.RowKit

theorem readP_body (l : List UInt8) : (readP l).body.length ≤ 1000 := by
  unfold readP
  repeat' split
  all_goals first | (simp [badRead]; done) | skip
  rename_i h _ _
  simp only [not_or] at h
  simp
  omega

set_option maxRecDepth 100000 in
set_option maxHeartbeats 1000000 in
theorem lawRead_any (A : Option Addr) (c : Nat) (l : List UInt8) (w : World) (hc : l.length ≤ c) (hc2 : c ≤ 9223372036854775807) (h : BR w w.heap.size A l) :
    Calls Try.prog 4 #[.slice A l.length c] w fun e w' => e = .returned (.bool true) ∧ Below w.heap.size w w' := by
  have hbl := readP_body l
  have c1 := read_any A c l w hc hc2 h
  have c2 := fun (w' : World) (hb : Below w.heap.size w w') => rread_any A c l w' hc hc2 ((h.below hb).lift hb.size)
  unfold ReadPost at c1 c2
  generalize readP l = r at *
  obtain ⟨s, cm, pt, nm, body, n, f⟩ := r
  simp only at c1 c2 hbl
  unfold pv at c1 c2
  have C1 := Lib.hid c1
  have C2 := Lib.hid c2
  clear c1 c2
  go_enter Try.func4, Try.ntmps4
  go_wp2_with fail
  refine C1.out.mono ?_
  rintro e w1 ⟨A1, k1, rfl, ho1, hb1⟩
  have hs1 := hb1.size
  go_wp2_with fail
  have hba : Below w.heap.size w (w1.alloc (.cells #[.int .i64 s, .bool cm, .int .i64 pt, .int .i64 nm, .slice A1 body.length k1] 24)) := hb1.alloc hs1 _
  refine (C2.out _ hba).mono ?_
  rintro e w2 ⟨A2, k2, rfl, ho2, hb2⟩
  have hcell := fun k => Below.at_ hb2 w1.heap.size (by simp) k
  have hz : w1.heap.size < w2.heap.size := by have := hb2.size; simp at this; omega
  have hbb : Below w.heap.size w w2 := hba.trans (hb2.mono hba.size)
  have ho1 : Own w2 w.heap.size (.slice A1 body.length k1) body := Own.after (World.ownsRow.alloc ho1 _) hb2 (Nat.le_refl _)
  have r1 := (Own.read ho1).2
  have r2 := (Own.read ho2).2
  have hsame : ∀ o : Obj, Calls Try.prog 16 #[pv s cm pt nm A1 body.length k1, pv s cm pt nm A2 body.length k2] (w2.alloc o) fun e w' => e = .returned (.bool true) ∧ Below w.heap.size w w' := by
    intro o
    have hb : Below w2.heap.size w2 (w2.alloc o) := (Below.refl _ _).alloc (Nat.le_refl _) _
    refine (same_yes s cm pt nm A1 A2 k1 k2 body (w2.alloc o) (by omega) ((r1.below hb).lift hb.size) ((r2.below hb).lift hb.size)).mono fun e w' ⟨he, hb'⟩ => ⟨he, ?_⟩
    exact (hbb.alloc hbb.size o).trans (hb'.mono (by simp; have := hbb.size; omega))
  unfold pv at hsame
  have HS := Lib.hid hsame
  have HBB := Lib.hid hbb
  clear hsame hba hb2 ho1 ho2 r1 r2 hb1
  go_wp2_with fail
  refine (HS.out _).mono ?_
  rintro e w3 ⟨rfl, hb3⟩
  go_wp2_with fail
  refine (awake_any _).mono ?_
  rintro e w4 ⟨rfl, hb4⟩
  go_wp2
  go_ret
  exact ⟨rfl, hb3.trans (hb4.mono hb3.size)⟩

set_option maxHeartbeats 800000 in
set_option maxRecDepth 100000 in
theorem lawRead_lifted (os : Os) (started : os.Started) (H : Type) (enc : TypeId × Value → H) :
    ReturnsInHanded {} Try.checked os 4 .any (Rows.packetReadMatchesSpecSpec.pre6 enc Try.prog Try.f4 Rows.packetReadMatchesSpecRow.domain false) (Rows.packetReadMatchesSpecSpec.post enc Try.prog Try.f4 false true false false) := by
  refine returnsInHanded_of_change (C := Try.checked) own started (by kernel_rfl) Try.func4
    (ChangeSpec.witness6 (enc := enc) (C := Try.checked) false ⟨#[], #[.slice none 0 0], []⟩ 8 (by kernel_rfl) (by kernel_rfl) (by kernel_rfl) (by kernel_rfl)) ?_
  intro W base args ds gs before hval0 hW _ _
  have hval : ∀ (j : Nat) t v, Try.f4.params[j]? = some t → args[j]? = some v → Value.okWide Try.prog W .any base t v := hval0
  have hW' := hW
  have hlt := fun x hx => hW'.lt x hx
  obtain ⟨p, q, hA0, hV, rfl, _, _⟩ := hW
  have hA : DataW.TrodAll enc Try.prog W 0 (fun _ => true) true Try.f4.params.toList args.toList ds p := hA0
  rw [Try.params4] at hA hval
  obtain ⟨v0, d0, rfl, rfl, h0⟩ := trodAll_one hA
  obtain ⟨rfl, rfl⟩ := trodVars_none hV
  obtain ⟨A', len, cap, rfl⟩ := okWide_slice Try.underlying22 (hval 0 22 v0 rfl rfl)
  obtain ⟨n, hn⟩ := h0
  obtain ⟨A, c, l, hv, hlc, hc, hB⟩ := open_u8s (fun x hx => hlt x (by simpa using hx)) hn
  rw [hv] at hW' ⊢
  refine (lawRead_any A c l W hlc (by unfold maxLen at hc; omega) hB).mono fun e W' ⟨he, hb⟩ => ?_
  subst he
  exact ⟨_, rfl, law_post (by decide +kernel) rfl rfl hW' rfl hb⟩

set_option maxRecDepth 100000 in
theorem read_closed : joinedFacts Try.prog 4 Try.f4 Rows.packetReadMatchesSpecSpec Rows.packetReadMatchesSpecRow = true :=
  closed_all (by as_aux_lemma => kernel_rfl) (by as_aux_lemma => kernel_rfl) (by as_aux_lemma => kernel_rfl) (by as_aux_lemma => kernel_rfl) (by as_aux_lemma => kernel_rfl) (by as_aux_lemma => kernel_rfl) (by as_aux_lemma => kernel_rfl) (by as_aux_lemma => kernel_rfl) (by as_aux_lemma => kernel_rfl) (by as_aux_lemma => kernel_rfl) (by as_aux_lemma => kernel_rfl) (by as_aux_lemma => kernel_rfl) (by as_aux_lemma => kernel_rfl) (by as_aux_lemma => kernel_rfl) (by as_aux_lemma => kernel_rfl) (by as_aux_lemma => kernel_rfl) (by as_aux_lemma => kernel_rfl) (by as_aux_lemma => kernel_rfl) pKeys (by as_aux_lemma => kernel_rfl) pLifts pMake (by as_aux_lemma => kernel_rfl) (by as_aux_lemma => kernel_rfl) (by as_aux_lemma => kernel_rfl) (by as_aux_lemma => kernel_rfl)

theorem read_holds : Rows.PacketReadMatchesSpecSaid :=
  OpenClaim.holds_of_wide 4 Try.f4 rfl rfl rfl rfl rfl rfl rfl ⟨rfl, rfl, rfl, rfl, rfl⟩ rfl rfl rfl rfl rfl (by kernel_rfl) Try.func4 read_closed
    (of_decide_eq_true (by kernel_rfl)) (by unfold Func.isWrapper; first | (rw [if_pos (by decide +kernel)]; kernel_rfl) | (rw [if_neg (by decide +kernel)]; exact ⟨rfl, rfl⟩))
    (fun os started H enc _ => lawRead_lifted os started H enc)
#print axioms read_holds
end Go.Proofs.Ytaajphmjfebbaaa
