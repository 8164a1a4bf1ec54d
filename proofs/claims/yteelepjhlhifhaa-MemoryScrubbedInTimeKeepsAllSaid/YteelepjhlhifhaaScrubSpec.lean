/- what Scrubbed answers. -/
import Derived.Test.YteelepjhlhifhaaBankSpec
import Derived.Test.YteelepjhlhifhaaScrubMath
namespace Go.Proofs.Yteelepjhlhifhaa

def nats (l : List Int) : List Nat := l.map Int.toNat
theorem ints_nats (l : List Int) (h : ∀ k (h : k < l.length), 0 ≤ l[k]) : ints (nats l) = l := by
  unfold ints nats
  rw [List.map_map]
  conv => rhs; rw [← List.map_id l]
  apply List.map_congr_left
  intro z hz
  obtain ⟨k, hk, rfl⟩ := List.mem_iff_getElem.1 hz
  have := h k hk
  simp
  omega
theorem nats_len (l : List Int) : (nats l).length = l.length := by simp [nats]
theorem nats_get (l : List Int) (k : Nat) (h : k < l.length) : (nats l)[k]'(by rw [nats_len]; exact h) = (l[k]).toNat := by simp [nats]
theorem right_ints {l l' : List Int} (h : Right l l') : ints (nats l) = l := ints_nats l fun k hk => (h.codes k hk).1
theorem right_ok {l l' : List Int} (h : Right l l') (k : Nat) (hk : k < l.length) (D : List Scr) : (⟨nats l, k, D⟩ : St).ok l.length := by
  refine ⟨nats_len l, hk, fun j hj => ?_⟩
  have hj' : j < l.length := by rw [nats_len] at hj; exact hj
  have := h.codes j hj'
  rw [nats_get l j hj']
  omega
def scrubbedS (l l' : List Int) (a m : Int) : (List Int × List Int) × List Scr × Int :=
  if placeS l l' a = 0 then
    (if 0 ≤ m ∧ m ≤ 5000 then ((ints (scrubT 0 m.toNat ⟨nats l, a.toNat, []⟩).C, l'), (scrubT 0 m.toNat ⟨nats l, a.toNat, []⟩).done, 0) else (([], []), [], 1))
  else (([], []), [], placeS l l' a)
end Go.Proofs.Yteelepjhlhifhaa
