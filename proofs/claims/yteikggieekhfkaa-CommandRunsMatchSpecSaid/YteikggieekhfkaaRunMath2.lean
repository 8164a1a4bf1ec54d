/- runs of both sides. -/
import Derived.Test.YteikggieekhfkaaBeatAny
namespace Go.Proofs.Yteikggieekhfkaa
open Go.RowKit

def zeroLS : LS := ⟨zeroU, 0, 0, [], 0, false, []⟩
/-- what a run answers -/
def runR (x : LS) (C : Int) (l : List Bt) : LS × Int := if C ≠ 0 then (zeroLS, C) else if (runS x l).2 ≠ 0 then (zeroLS, (runS x l).2) else runS x l
theorem send_tk {x : LS} {lost : Bool} (hx : LOk x) (h : ∀ y ∈ x.tk, y.length ≤ 200) : (∀ y ∈ (sendS x lost).1.tk, y.length ≤ 200) ∧ (sendS x lost).1.tk.length ≤ x.tk.length + 1 := by
  unfold sendS
  by_cases hn : noNext x
  · rw [if_pos hn]; exact ⟨h, Nat.le_succ _⟩
  · rw [if_neg hn]
    split
    · exact ⟨h, Nat.le_succ _⟩
    · split
      · exact ⟨h, Nat.le_succ _⟩
      · simp only
        split
        · refine ⟨fun y hy => ?_, by simp⟩
          rcases List.mem_append.1 hy with hy | hy
          · exact h y hy
          · obtain rfl := List.mem_singleton.1 hy
            unfold bodyOf
            by_cases hlt : x.s < x.q.length
            · have := hx.g.bod (x.q[x.s]) (List.getElem_mem hlt)
              rw [show x.q.getD x.s [] = x.q[x.s] by simp [List.getD, hlt]]
              unfold bodS at this
              split at this
              · simp at this
              · split at this
                · simp at this
                · omega
            · rw [show x.q.getD x.s [] = [] by simp [List.getD, List.getElem?_eq_none (Nat.le_of_not_lt hlt)]]
              simp
        · exact ⟨h, Nat.le_succ _⟩
theorem rest_tk {x : LS} {t : Bt} : (restS x t).tk = x.tk := by
  unfold restS
  split <;> rfl
theorem beat_tk {x : LS} {t : Bt} (hx : LOk x) (h : ∀ y ∈ x.tk, y.length ≤ 200) : (∀ y ∈ (beatS x t).1.tk, y.length ≤ 200) ∧ (beatS x t).1.tk.length ≤ x.tk.length + 1 := by
  unfold beatS
  split
  · split
    · exact send_tk hx h
    · simp only [rest_tk]
      exact send_tk hx h
  · simp only [rest_tk]
    exact ⟨h, Nat.le_succ _⟩
theorem run_step (x : LS) (l : List Bt) (j : Nat) (hj : j < l.length) : runS x (l.drop j) = if (beatS x l[j]).2 ≠ 0 then beatS x l[j] else runS (beatS x l[j]).1 (l.drop (j + 1)) := by
  rw [List.drop_eq_getElem_cons hj]
  rfl
theorem both_ok {n v k f s : Int} {q : List (List UInt8)} {wd : Int} (h : bothS n v k f s q wd = 0) : BrdOk n v k ∧ GndOk f s q wd := by
  unfold bothS at h
  by_cases hb : brdS n v k = 0
  · rw [if_pos hb] at h
    exact ⟨brd_ok hb, gnd_ok h⟩
  · rw [if_neg hb] at h
    exact absurd h hb
theorem runC_ok {n v k f s : Int} {q : List (List UInt8)} {wd : Int} {l : List Bt} (h : runC n v k f s q wd l = 0) : BrdOk n v k ∧ GndOk f s q wd ∧ l.length ≤ 2000 ∧ l.all Bt.okB = true := by
  unfold runC at h
  by_cases hb : bothS n v k f s q wd = 0
  · rw [if_pos hb] at h
    obtain ⟨h1, h2⟩ := both_ok hb
    by_cases h3 : 2000 < l.length
    · rw [if_pos h3] at h; simp at h
    · rw [if_neg h3] at h
      by_cases h4 : l.all Bt.okB = true
      · exact ⟨h1, h2, by omega, h4⟩
      · rw [if_neg h4] at h; simp at h
  · rw [if_neg hb] at h
    exact absurd h hb
theorem OwnT.qr {w : World} {base B : Nat} {v : Value} {tk : List (List UInt8)} (h : OwnT w base B v tk) (hB : B ≤ w.heap.size) : ∃ A c, v = .slice A tk.length c ∧ QR w w.heap.size A tk := by
  obtain ⟨ds, h1, h2, h3⟩ := h
  obtain ⟨A, c, rfl, hc, -, -, -⟩ := row_form h2
  exact ⟨A, c, rfl, ds, h1, hc, fun i hi hi' => ⟨(h3 i hi hi').1, (h3 i hi hi').2.lift hB⟩⟩
/-- what a run answers, in memory -/
def RunPost (x : LS) (F : Int) (w : World) (e : Ending) (w' : World) : Prop :=
  ∃ A c A' c', e = .returned (.tuple #[x.b.val, grdV x.f (x.s : Int) (.slice A x.q.length c) x.wd x.st, .slice A' x.tk.length c', .int .i64 F]) ∧ QR w' w'.heap.size A x.q ∧ QR w' w'.heap.size A' x.tk ∧ Below w.heap.size w w'
end Go.Proofs.Yteikggieekhfkaa
