/- the closures of lines: which pair of marks speaks at a tick, and what it says. -/
import Derived.Test.YtpccpkjfnmclfaaSearch
import Derived.Test.YtpccpkjfnmclfaaThrough
namespace Go.Proofs.Ytpccpkjfnmclfaa
open Go.RowKit

/-- the mark at i is behind the tick n -/
def pastP (l : List Mk) (n : Int) (i : Nat) : Bool := match l[i]? with
  | some x => decide (n < x.t)
  | none => true
theorem pastP_get (l : List Mk) (n : Int) (i : Nat) (h : i < l.length) : pastP l n i = decide (n < l[i].t) := by
  unfold pastP
  rw [List.getElem?_eq_getElem h]
/-- a box that holds a slice, or a number -/
def BoxS (w : World) (p : Nat) (A : Option Addr) (n c : Nat) : Prop := w.cell? ⟨p, 0, none⟩ = some (.slice A n c)
def BoxI (w : World) (p : Nat) (n : Int) : Prop := w.cell? ⟨p, 0, none⟩ = some (.int .i64 n)
set_option maxRecDepth 100000 in
set_option maxHeartbeats 1000000 in
theorem past_any (A : Option Addr) (c : Nat) (l : List Mk) (n : Int) (i p q B : Nat) (w : World) (hi : i < l.length) (hp : w.cell? ⟨p, 0, none⟩ = some (.slice A l.length c)) (hq : w.cell? ⟨q, 0, none⟩ = some (.int .i64 n)) (hA : MR w B A l) :
    Calls Try.prog 85 #[.int .i64 i, .pointer (some ⟨p, 0, none⟩), .pointer (some ⟨q, 0, none⟩)] w fun e w' => e = .returned (.bool (pastP l n i)) ∧ Below w.heap.size w w' := by
  obtain ⟨ad, rfl, had, c0, -, -⟩ := hA.get i hi
  rw [pastP_get l n i hi]
  generalize l[i] = x at *
  obtain ⟨xt, xz, xo⟩ := x
  simp only at c0 ⊢
  have hi0 : (0 : Int) ≤ (i : Int) := by omega
  have hi1 : (i : Int) < (l.length : Int) := by omega
  go_enter Try.func85, Try.ntmps85
  go_wp2_with fail
  go_quiet (fail)
  go_wp2_with fail
  go_ret
  exact ⟨rfl, below_draws (Below.refl _ _) _⟩

/-- what the marks' lines need -/
def Good (l : List Mk) : Prop := 2 ≤ l.length ∧ l.length ≤ 2000 ∧ (∀ x ∈ l, x.ok) ∧ Sorted l
/-- what a function of times leaves: a number near what the lines say -/
def TimePost (l : List Mk) (n : Int) (w : World) (e : Ending) (w' : World) : Prop := (∃ v x : Int, e = .returned (.int .i64 v) ∧ Near v x ∧ TimeP l n x) ∧ Below w.heap.size w w'
theorem found_seg {l : List Mk} {n : Int} {r K : Nat} (h2 : 2 ≤ l.length) (h : FoundP (pastP l n) l.length r) (hK : K = min (max r 1) (l.length - 1)) (hs : Sorted l) : Seg l n K := by
  obtain ⟨h1, h3, h4⟩ := h
  have hK1 : 1 ≤ K := by omega
  have hKl : K < l.length := by omega
  refine ⟨hKl, hK1, ?_, ?_⟩
  · by_cases h : K = 1
    · exact .inl h
    · right
      have hr : K ≤ r := by omega
      rcases h3 with h3 | h3
      · omega
      · rw [pastP_get l n (r - 1) (by omega), decide_eq_false_iff_not] at h3
        have := (hs.le (K - 1) (r - 1) (by omega) (by omega)).1
        omega
  · by_cases h : K + 1 = l.length
    · exact .inl h
    · right
      have hr : r ≤ K := by omega
      rcases h4 with h4 | h4
      · omega
      · by_cases hrl : r < l.length
        · rw [pastP_get l n r hrl, decide_eq_true_eq] at h4
          have := (hs.le r K hKl hr).1
          omega
        · omega
set_option maxRecDepth 100000 in
set_option maxHeartbeats 2000000 in
theorem lines1_any (A : Option Addr) (c : Nat) (l : List Mk) (n : Int) (p : Nat) (w : World) (hp : w.cell? ⟨p, 0, none⟩ = some (.slice A l.length c)) (hpz : p < w.heap.size) (hA : MR w w.heap.size A l) (hg : Good l) (hn : 0 ≤ n ∧ n ≤ 1000000000000) :
    Calls Try.prog 83 #[.int .i64 n, .pointer (some ⟨p, 0, none⟩)] w (TimePost l n w) := by
  obtain ⟨h2, h2000, hok, hso⟩ := hg
  obtain ⟨W, hW⟩ : ∃ W, W = w.alloc (.cells #[.int .i64 n] 3) := ⟨_, rfl⟩
  have hwW : Below w.heap.size w W := by rw [hW]; exact (Below.refl _ _).alloc (Nat.le_refl _) _
  have hsz : W.heap.size = w.heap.size + 1 := by rw [hW]; simp
  have hp1 : W.cell? ⟨p, 0, none⟩ = some (.slice A l.length c) := (Below.at_ hwW p hpz 0).trans hp
  have hq1 : W.cell? ⟨w.heap.size, 0, none⟩ = some (.int .i64 n) := by rw [hW]; simp
  have hA1 := hA.below hwW
  have HW := Lib.hid hW.symm
  clear hW
  have hsrch := search_any 85 (fun _ _ => by kernel_rfl) (.pointer (some ⟨p, 0, none⟩)) (.pointer (some ⟨w.heap.size, 0, none⟩)) (pastP l n) l.length (by omega) W
    (fun i w' hi hb => past_any A c l n i p w.heap.size w.heap.size w' hi ((Below.at_ hb p (by omega) 0).trans hp1) ((Below.at_ hb w.heap.size (by omega) 0).trans hq1) (hA1.below (hb.mono (by omega))))
  have HS := Lib.hid hsrch
  have HF := Lib.hid (fun (r K : Nat) h hK => found_seg (n := n) (r := r) (K := K) h2 h hK hso)
  have hmf : ∀ (fn : Fn) (first cap : Array Value) (w : World), (Instr.makeFunc fn first cap).run Try.prog w = .ok (.func fn first cap) w := fun _ _ _ _ => rfl
  have hW1 := HW.out
  clear hsrch
  go_enter Try.func83, Try.ntmps83
  go_wp2_with fail
  refine HS.out.mono ?_
  rintro e w1 ⟨⟨r, rfl, hf⟩, hb1⟩
  have hr : r ≤ l.length := hf.1
  obtain ⟨K, hK⟩ : ∃ K, K = min (max r 1) (l.length - 1) := ⟨_, rfl⟩
  have HSEG := Lib.hid (HF.out r K hf hK)
  have hK1 : 1 ≤ K := by omega
  have hK2 : K < l.length := by omega
  clear hf HF HS
  have hp2 := (Below.at_ hb1 p (by omega) 0).trans hp1
  have hq2 := (Below.at_ hb1 w.heap.size (by omega) 0).trans hq1
  have hA2 := hA1.below (hb1.mono (by omega))
  have hKi : min (max (r : Int) 1) ((l.length : Int) - 1) = (K : Int) := by omega
  obtain ⟨J, hJ⟩ : ∃ J, J = K - 1 := ⟨_, rfl⟩
  have hJl : J < l.length := by omega
  obtain ⟨ad, rfl, had, c0, c1, c2⟩ := hA2.get J hJl
  obtain ⟨ad', hadd, -, d0, d1, d2⟩ := hA2.get K hK2
  obtain rfl : ad = ad' := by injection hadd
  have HOL := Lib.hid (fun w' => onLine_any l[J] l[K] n (hok _ (List.getElem_mem _)) (hok _ (List.getElem_mem _)) (hso.lt K J hK2 (by omega)) hn w')
  have HTP : Hid (TimeP l n (lineF l[J] l[K] n)) := Lib.hid ⟨K, HSEG.out, by subst hJ; rfl⟩
  generalize lineF l[J] l[K] n = x at *
  generalize l[J] = m1 at *
  generalize l[K] = m2 at *
  obtain ⟨xt, xz, xo⟩ := m1
  obtain ⟨yt, yz, yo⟩ := m2
  simp only at c0 c1 c2 d0 d1 d2
  unfold mv LinePost at HOL
  simp only at HOL
  have hz1 := hb1.size
  have hk0 : (0 : Int) ≤ (K : Int) := by omega
  have hk1 : (K : Int) < (l.length : Int) := by omega
  have hk2 : (0 : Int) ≤ (J : Int) := by omega
  have hk3 : (J : Int) < (l.length : Int) := by omega
  have hk4 : (K : Int) - 1 = (J : Int) := by omega
  have hk5 : IntKind.i64.wrap ((K : Int) - 1) = (J : Int) := by rw [hk4]; exact IntWalk.i64_in _ (by omega)
  have hk6 : wrap64 ((K : Int) - 1) = (J : Int) := by rw [hk4]; exact IntWalk.wrap64_in _ (by omega)
  have hk7 : IntKind.i64.wrap (J : Int) = (J : Int) := IntWalk.i64_in _ (by omega)
  have hSS : ∀ w', Below w1.heap.size w1 w' → (w'.cell? ⟨p, 0, none⟩ = some (.slice (some ad) l.length c) ∧ w'.cell? ⟨w.heap.size, 0, none⟩ = some (.int .i64 n) ∧ w'.cell? (ad.add (J * 3)) = some (.int .i64 xt) ∧ w'.cell? ⟨(ad.add (J * 3)).block, (ad.add (J * 3)).off + 1, none⟩ = some (.int .i64 xz) ∧ w'.cell? ⟨(ad.add (J * 3)).block, (ad.add (J * 3)).off + 2, none⟩ = some (.int .i64 xo) ∧ w'.cell? (ad.add (K * 3)) = some (.int .i64 yt) ∧ w'.cell? ⟨(ad.add (K * 3)).block, (ad.add (K * 3)).off + 1, none⟩ = some (.int .i64 yz) ∧ w'.cell? ⟨(ad.add (K * 3)).block, (ad.add (K * 3)).off + 2, none⟩ = some (.int .i64 yo)) := fun w' hw =>
    ⟨(Below.at_ hw _ (by omega) _).trans hp2, (Below.at_ hw _ (by omega) _).trans hq2, (hw.cell (by rw [add_block]; omega)).trans c0, (Below.at_ hw _ (by rw [add_block]; omega) _).trans c1, (Below.at_ hw _ (by rw [add_block]; omega) _).trans c2, (hw.cell (by rw [add_block]; omega)).trans d0, (Below.at_ hw _ (by rw [add_block]; omega) _).trans d1, (Below.at_ hw _ (by rw [add_block]; omega) _).trans d2⟩
  have HSS := Lib.hid hSS
  have HOC := Lib.hid (fun (w' : World) (hb : Below w1.heap.size w1 w') (hz : w1.heap.size ≤ w'.heap.size) => carryB (HOL.out w') hb hz)
  have hbw : Below w.heap.size w w1 := hwW.trans (hb1.mono (by omega))
  clear hadd hSS HOL hA hA2 hK hJ hW1 HW hwW hb1
  go_wp2_with fail
  go_region_held3 (fun w' => w'.cell? ⟨p, 0, none⟩ = some (.slice (some ad) l.length c) ∧ w'.cell? ⟨w.heap.size, 0, none⟩ = some (.int .i64 n) ∧ w'.cell? (ad.add (J * 3)) = some (.int .i64 xt) ∧ w'.cell? ⟨(ad.add (J * 3)).block, (ad.add (J * 3)).off + 1, none⟩ = some (.int .i64 xz) ∧ w'.cell? ⟨(ad.add (J * 3)).block, (ad.add (J * 3)).off + 2, none⟩ = some (.int .i64 xo) ∧ w'.cell? (ad.add (K * 3)) = some (.int .i64 yt) ∧ w'.cell? ⟨(ad.add (K * 3)).block, (ad.add (K * 3)).off + 1, none⟩ = some (.int .i64 yz) ∧ w'.cell? ⟨(ad.add (K * 3)).block, (ad.add (K * 3)).off + 2, none⟩ = some (.int .i64 yo))
    (first | go_keep | exact HSS.out _ (by assumption))
    (first
     | (go_at_call 86
        refine (HOC.out _ ?_ ?_).mono ?_
        · first | assumption | exact (Below.refl _ _).drew | exact Below.drew (by assumption)
        · first | assumption | (simp; done) | (simp; omega)
        rintro e w3 ⟨⟨v, rfl, hnear⟩, hb3, hs3⟩))
  have hg := hbw.trans (hb3.mono (by omega))
  go_wp2_with fail
  go_ret
  exact ⟨⟨v, x, rfl, hnear, HTP.out⟩, hg⟩
end Go.Proofs.Ytpccpkjfnmclfaa
