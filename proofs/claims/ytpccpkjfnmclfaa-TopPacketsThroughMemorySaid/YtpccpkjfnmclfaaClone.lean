/- slices.Clone of bytes. -/
import Derived.Test.YtpccpkjfnmclfaaBase
import Derived.WalkSpells
namespace Go.Proofs.Ytpccpkjfnmclfaa
open Go.RowKit

theorem run_isnil (A : Option Addr) (n c : Nat) (w : World) : (binOp .eql 22 (.slice A n c) (.slice none 0 0)).run Try.prog w = .ok (.bool A.isNone) w := by
  simp only [binOp]
  simp [Op.equal, Op.maxDepth, Lib.run_equalIn_slice_nil w 9999 22 5 A n c 0 0 Try.underlying22]

set_option maxRecDepth 100000 in
set_option maxHeartbeats 400000 in
theorem clone_any (A : Option Addr) (n c : Nat) (l : List UInt8) (w : World) (hn : n = l.length) (hl : l.length ≤ 140737488355328) (h : BR w w.heap.size A l) :
    Calls Try.prog 28 #[.slice A n c] w fun e w' => ∃ v', e = .returned v' ∧ Own w' w.heap.size v' l ∧ Below w.heap.size w w' := by
  subst hn
  cases A with
  | none =>
    have hl0 : l = [] := by
      rcases h with e | ⟨ad, e, _⟩
      · simpa using e
      · cases e
    subst hl0
    have hq := fun (n c : Nat) (w : World) => run_isnil none n c w
    go_enter Try.func28, Try.ntmps28
    go_wp2
    go_ret
    exact ⟨_, rfl, Own.nil _ _, Below.refl _ _⟩
  | some ad =>
    have hq := fun (n c : Nat) (w : World) => run_isnil (some ad) n c w
    have h2 : BR (w.alloc (.cells #[] 5)) w.heap.size (some ad) l := h.below ((Below.refl _ _).alloc (Nat.le_refl _) _)
    go_enter Try.func28, Try.ntmps28
    go_wp2_with (first | (at_builtin; refine wpList_app _ rfl (.tmp 5) (.tmp 6) 22 5 1 1 rfl elem8 w.heap.size _ 0 [] rfl (World.ownsRow_lit (e := 5) (size := 1) w #[] 0 (Nat.le_refl _) (by simp [maxLen]) rfl) w.heap.size (some ad) l.length c (l.map bv) rfl (by simp) h2 (bv_one _) (by unfold maxLen; omega) (by omega) (by simp) ?_; intro v2 w2 hown2 hgrow2 hat2) | fail)
    go_ret
    refine ⟨v2, rfl, ?_, ?_⟩
    · have := Own.of (a := []) hown2 rfl
      simpa using this
    · exact ((Below.refl _ _).alloc (Nat.le_refl _) _).grown hgrow2 (by simp) (fun k hk => Nat.le_of_eq (by injection hk))
end Go.Proofs.Ytpccpkjfnmclfaa
