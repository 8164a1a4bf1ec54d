/- the program's copies of bodies, of a ground. -/
import Derived.Test.YteikggieekhfkaaQRow
import Derived.Test.YteikggieekhfkaaOwnT
import Derived.Test.YteikggieekhfkaaGnd
namespace Go.Proofs.Yteikggieekhfkaa
open Go.RowKit

theorem BR.keep {w w' : World} {B B' : Nat} {A : Option Addr} {l : List UInt8} (h : BR w B A l) (hk : ∀ ad, A = some ad → w'.heap[ad.block]? = w.heap[ad.block]?) (hB : B ≤ B') : BR w' B' A l := by
  rcases h with e | ⟨ad, e, hl, hc⟩
  · exact .inl e
  · refine .inr ⟨ad, e, by omega, fun j v hv => ?_⟩
    rw [← hc j v hv]
    exact World.cell?_of_block (w := w) (by rw [add_block]; exact hk ad e)
/-- a row of copies of the call's own -/
def OwnC (w : World) (base : Nat) (v : Value) (q : List (List UInt8)) : Prop :=
  ∃ ds : List Bd, ds.length = q.length ∧ w.ownsRow base 24 1 v q.length (rcells Bd.cells ds) ∧
    ∀ (i : Nat) (h : i < q.length) (h' : i < ds.length), ds[i].n = q[i].length ∧ BR w w.heap.size ds[i].A q[i] ∧ (q[i] ≠ [] → ∀ ad, ds[i].A = some ad → v.ownBlock ≠ some ad.block ∧ base ≤ ad.block)
theorem OwnC.nil (w : World) (base : Nat) : OwnC w base (.slice none 0 0) [] := ⟨[], rfl, w.ownsRow_nil base 24 1, fun i h => by simp at h⟩
theorem OwnC.qr {w : World} {base : Nat} {v : Value} {q : List (List UInt8)} (h : OwnC w base v q) : ∃ A c, v = .slice A q.length c ∧ QR w w.heap.size A q ∧ q.length ≤ c ∧ (A = none → c = 0) := by
  obtain ⟨ds, h1, h2, h3⟩ := h
  obtain ⟨A, c, rfl, hc, hle, hn, -⟩ := row_form h2
  exact ⟨A, c, rfl, ⟨ds, h1, hc, fun i hi hi' => ⟨(h3 i hi hi').1, (h3 i hi hi').2.1⟩⟩, hle, hn⟩
theorem OwnC.other {w : World} {base p k : Nat} {v u : Value} {q : List (List UInt8)} (h : OwnC w base v q) (hp : p < base) : OwnC (w.setCell ⟨p, k, none⟩ u) base v q := by
  obtain ⟨ds, h1, h2, h3⟩ := h
  refine ⟨ds, h1, ⟨h2.1, ?_⟩, fun i hi hi' => ?_⟩
  · rcases h2.2 with e | ⟨g, cap, cur, e, hg, hh, r⟩
    · exact .inl e
    · exact .inr ⟨g, cap, cur, e, hg, (Below.heap_setCell w ⟨p, k, none⟩ u g (by show g ≠ p; omega)).trans hh, r⟩
  · obtain ⟨a, b, c⟩ := h3 i hi hi'
    refine ⟨a, ?_, c⟩
    by_cases he : q[i] = []
    · exact .inl (by simp [he])
    · refine b.keep (fun ad e => Below.heap_setCell w ⟨p, k, none⟩ u _ ?_) (by simp)
      have := (c he ad e).2
      show ad.block ≠ p
      omega
theorem OwnC.snoc {w w1 w2 w3 : World} {base : Nat} {v v' : Value} {q : List (List UInt8)} {l : List UInt8} {x : Bd} {ds : List Bd} (h1 : ds.length = q.length)
    (h3 : ∀ (i : Nat) (h : i < q.length) (h' : i < ds.length), ds[i].n = q[i].length ∧ BR w w.heap.size ds[i].A q[i] ∧ (q[i] ≠ [] → ∀ ad, ds[i].A = some ad → v.ownBlock ≠ some ad.block ∧ base ≤ ad.block))
    (hv : ∀ g, v.ownBlock = some g → g < w.heap.size) (hbase : base ≤ w.heap.size)
    (hb1 : Below w.heap.size w w1) (hx : x.n = l.length) (hl : BR w1 w1.heap.size x.A l) (hf : ∀ ad, x.A = some ad → w.heap.size ≤ ad.block) (hb2 : Below w1.heap.size w1 w2)
    (hown : w3.ownsRow base 24 1 v' (q.length + 1) (rcells Bd.cells ds ++ rcells Bd.cells [x])) (hg : w2.grownBy w3 v.ownBlock) (ha : v'.ownBlock = v.ownBlock ∨ v'.ownBlock = some w2.heap.size) :
    OwnC w3 base v' (q ++ [l]) := by
  have z1 := hb1.size
  have z2 := hb2.size
  have z3 := hg.size
  have hfresh : ∀ ad : Addr, ad.block < w2.heap.size → v.ownBlock ≠ some ad.block → v'.ownBlock ≠ some ad.block := fun ad hlt hne => by
    rcases ha with e | e
    · rw [e]; exact hne
    · rw [e]; intro q; injection q with q; omega
  refine ⟨ds ++ [x], by simp [h1], ?_, fun i hi hi' => ?_⟩
  · have e : rcells Bd.cells (ds ++ [x]) = rcells Bd.cells ds ++ rcells Bd.cells [x] := by simp [rcells]
    rw [e, List.length_append]
    exact hown
  · by_cases hlt : i < ds.length
    · rw [List.getElem_append_left hlt, List.getElem_append_left (by omega)]
      obtain ⟨a, b, c⟩ := h3 i (by omega) hlt
      refine ⟨a, ?_, fun hne ad e => ?_⟩
      · by_cases he : q[i] = []
        · exact .inl (by simp [he])
        · rcases b with e1 | ⟨ad', e1, hl', hc'⟩
          · exact absurd (by simpa using e1) he
          · have b' : BR w w.heap.size ds[i].A q[i] := .inr ⟨ad', e1, hl', hc'⟩
            refine b'.keep (fun ad e => ?_) (by omega)
            rw [e1] at e
            injection e with e
            subst e
            exact (hg.block _ (by omega) (fun e => (c he _ e1).1 e.symm)).trans ((hb2.block _ (by omega)).trans (hb1.block _ hl'))
      · rcases b with e1 | ⟨ad', e1, hl', hc'⟩
        · exact absurd (by simpa using e1) hne
        · have e' := e1
          rw [e] at e'
          injection e' with e'
          subst e'
          exact ⟨hfresh ad (by omega) (c hne ad e).1, (c hne ad e).2⟩
    · have hi2 : i = ds.length := by simp at hi'; omega
      subst hi2
      rw [List.getElem_append_right (Nat.le_refl _), List.getElem_append_right (by omega)]
      simp only [h1, Nat.sub_self, List.getElem_cons_zero]
      by_cases he : l = []
      · exact ⟨hx, .inl (by simp [he]), fun hne => absurd he hne⟩
      · obtain ⟨ad', e1, hl', hc'⟩ : ∃ ad, x.A = some ad ∧ ad.block < w1.heap.size ∧ True := by
          rcases hl with e1 | ⟨ad', e1, hl', -⟩
          · exact absurd (by simpa using e1) he
          · exact ⟨ad', e1, hl', trivial⟩
        have hge := hf ad' e1
        have hvne : v.ownBlock ≠ some ad'.block := fun q => by have := hv _ q; omega
        refine ⟨hx, ?_, fun _ ad e => ?_⟩
        · refine hl.keep (fun ad e => ?_) (by omega)
          rw [e1] at e
          injection e with e
          subst e
          exact (hg.block _ (by omega) (fun e => hvne e.symm)).trans (hb2.block _ hl')
        · rw [e1] at e
          injection e with e
          subst e
          exact ⟨hfresh _ (by omega) hvne, by omega⟩
set_option maxRecDepth 100000 in
set_option maxHeartbeats 1000000 in
theorem clonedBodies_any (A : Option Addr) (q : List (List UInt8)) (c B : Nat) (w : World) (hB : B ≤ w.heap.size) (hl : q.length ≤ 100000) (hbl : ∀ x ∈ q, x.length ≤ 1000) (h : QR w B A q) :
    Calls Try.prog 62 #[.slice A q.length c] w fun e w' => ∃ v, e = .returned v ∧ OwnC w' w.heap.size v q ∧ Below w.heap.size w w' := by
  go_enter Try.func62, Try.ntmps62
  go_wp2_with fail
  go_loopw [3, 8] (fun u i wr => ∃ j : Nat, j ≤ q.length ∧ i = .int .i64 j ∧ OwnC wr w.heap.size u (q.take j) ∧ Below w.heap.size w wr) (fun _ i _ => q.length - (intOf i).toNat)
  case atStart => exact ⟨0, Nat.zero_le _, rfl, OwnC.nil _ _, Below.refl _ _⟩
  case round =>
    obtain ⟨j, hj, rfl, hO, hbr⟩ := hrel
    by_cases hlt : j < q.length
    · obtain ⟨ad, X, k, hA, hbk, hc, hr⟩ := (h.below (hbr.mono hB)).get j hlt
      subst hA
      have hi0 : (0 : Int) ≤ (j : Int) := by omega
      have hi1 : (j : Int) < (q.length : Int) := by omega
      have hbz := hbl q[j] (List.getElem_mem hlt)
      have HCL : Hid (Calls Try.prog 80 #[.slice X q[j].length k] wr fun e w' => ∃ A c, e = Ending.returned (.slice A q[j].length c) ∧ BR w' w'.heap.size A q[j] ∧ Below wr.heap.size wr w' ∧ ∀ ad, A = some ad → wr.heap.size ≤ ad.block) :=
        Lib.hid ((clone_any X q[j].length k q[j] wr rfl (by omega) (hr.lift (Nat.le_trans hB hbr.size))).mono fun e w' ⟨v, he, ho, h2⟩ => by obtain ⟨A, c, rfl, hr, hf⟩ := ho.form2; exact ⟨A, c, he, hr, h2, hf⟩)
      have HTK := Lib.hid (List.take_succ_eq_append_getElem hlt)
      have hlen : (q.take j).length = j := by simp; omega
      generalize q[j] = bd at *
      obtain ⟨ds, d1, d2, d3⟩ := hO
      rw [hlen] at d2
      have HD1 := Lib.hid d1
      have HD3 := Lib.hid d3
      have HD2 := Lib.hid d2
      have HLN := Lib.hid hlen
      have HBW := Lib.hid (World.ownsRow.lt d2)
      clear d1 d3 hlen hr
      go_wp2_with fail
      refine HCL.out.mono ?_
      rintro e w1 ⟨X1, k1, rfl, hr1, hb1, hf1⟩
      have hown1 := World.ownsRow.alloc (World.ownsRow.kept (row := none) HD2.out ⟨hb1.os, hb1.tape, hb1.output, hb1.size, fun k hk _ => hb1.block k hk⟩ (by rcases h' : u3.ownBlock with _ | g; exact .inl rfl; exact .inr (by simp))) (.cells #[.slice X1 bd.length k1] 24)
      have z1 := hb1.size
      have zr := hbr.size
      go_wp2_with (first | (at_builtin; refine wpList_app _ rfl (.tmp 12) (.tmp 15) 39 24 1 24 rfl elemQ w.heap.size u3 j (rcells Bd.cells ds) rfl hown1 (w1.heap.size + 1) _ 1 1 (rcells Bd.cells [⟨X1, bd.length, k1⟩]) rfl rfl (Cells.fresh w1 _ 24 _ _ rfl) (ds_one _) (by unfold maxLen; omega) (by omega) (by simp; omega) ?_; intro v3 w3 hown3 hgrow3 hat3) | fail)
      go_roundw
      case rel =>
        refine ⟨j + 1, by omega, by go_num, ?_, ?_⟩
        · rw [HTK.out]
          exact OwnC.snoc HD1.out HD3.out (fun g hg => (HBW.out g hg).2) zr hb1 rfl hr1 hf1 ((Below.refl _ _).alloc (Nat.le_refl _) _) (by rw [HLN.out]; exact hown3) hgrow3 hat3
        · exact ((hbr.trans (hb1.mono zr)).alloc (by omega) _).grown hgrow3 (by simp; omega) (fun k hk => (HBW.out k hk).1)
      case measure => simp [intOf]; omega
    · have hjj : j = q.length := by omega
      have HJ := Lib.hid hjj
      clear hjj
      have HO := Lib.hid hO
      clear hO
      go_wp2_with fail
      go_ret
      have h1 := HO.out
      rw [HJ.out, List.take_length] at h1
      exact ⟨_, rfl, h1, hbr⟩
theorem OwnC.after {w w' : World} {base : Nat} {v : Value} {q : List (List UInt8)} (h : OwnC w base v q) (hb : Below w.heap.size w w') : OwnC w' base v q := by
  obtain ⟨ds, h1, h2, h3⟩ := h
  refine ⟨ds, h1, World.ownsRow.kept (row := none) h2 ⟨hb.os, hb.tape, hb.output, hb.size, fun k hk _ => hb.block k hk⟩ ?_, fun i hi hi' => ⟨(h3 i hi hi').1, ((h3 i hi hi').2.1.below hb).lift hb.size, (h3 i hi hi').2.2⟩⟩
  rcases h' : v.ownBlock with _ | g
  · exact .inl rfl
  · exact .inr (by simp)
theorem OwnC.lower {w : World} {base base' : Nat} {v : Value} {q : List (List UInt8)} (h : OwnC w base v q) (hb : base' ≤ base) : OwnC w base' v q := by
  obtain ⟨ds, h1, h2, h3⟩ := h
  refine ⟨ds, h1, ⟨h2.1, ?_⟩, fun i hi hi' => ⟨(h3 i hi hi').1, (h3 i hi hi').2.1, fun hne ad e => ⟨((h3 i hi hi').2.2 hne ad e).1, by have := ((h3 i hi hi').2.2 hne ad e).2; omega⟩⟩⟩
  rcases h2.2 with e | ⟨g, cap, cur, e, hg, r⟩
  · exact .inl e
  · exact .inr ⟨g, cap, cur, e, by omega, r⟩
set_option maxRecDepth 100000 in
set_option maxHeartbeats 1000000 in
theorem cloned_any (f s : Int) (A : Option Addr) (q : List (List UInt8)) (c : Nat) (wd : Int) (st : Bool) (B : Nat) (w : World) (hB : B ≤ w.heap.size) (hl : q.length ≤ 100000) (hbl : ∀ x ∈ q, x.length ≤ 1000) (h : QR w B A q) :
    Calls Try.prog 61 #[grdV f s (.slice A q.length c) wd st] w fun e w' => ∃ v, e = .returned (grdV f s v wd st) ∧ OwnC w' w.heap.size v q ∧ Below w.heap.size w w' := by
  unfold grdV
  have h2 := two_new w (.cells (grdC f s (.slice A q.length c) wd st) 41) (.cells (grdC 0 0 (.slice none 0 0) 0 false) 41)
  obtain ⟨w0, hw0⟩ : ∃ w0, (w.alloc (.cells (grdC f s (.slice A q.length c) wd st) 41)).alloc (.cells (grdC 0 0 (.slice none 0 0) 0 false) 41) = w0 := ⟨_, rfl⟩
  rw [hw0] at h2
  have z0 : w0.heap.size = w.heap.size + 2 := by rw [← hw0]; simp
  have g0 : Blk w0 w.heap.size (grdC f s (.slice A q.length c) wd st) 41 := by rw [← hw0]; exact (Blk.new w _ _).alloc _
  have g1 : Blk w0 (w.heap.size + 1) (grdC 0 0 (.slice none 0 0) 0 false) 41 := by rw [← hw0]; exact Blk.snd w _ _ _
  have HC := Lib.hid (clonedBodies_any A q c B w0 (by omega) hl hbl (h.below (h2.mono hB)))
  unfold grdC at hw0
  obtain ⟨p0, p1, p2, p3, p4⟩ := blk_g g0
  clear h hbl
  go_enter Try.func61, Try.ntmps61
  go_wp2_with fail
  refine HC.out.mono ?_
  rintro e w1 ⟨v, rfl, hO, hb1⟩
  clear hw0 p0 p1 p2 p3 p4 HC
  obtain ⟨A1, c1, rfl, -, -, -⟩ := hO.qr
  have g0 := g0.below hb1 g0.lt
  have g1 := g1.below hb1 g1.lt
  have B1 := h2.trans (hb1.mono h2.size)
  obtain ⟨p0, p1, p2, p3, p4⟩ := blk_g g0
  obtain ⟨q0, q1, q2, q3, q4⟩ := blk_g g1
  have f0 := g0.free 2
  obtain ⟨e0, e1, e2, e3, e4, -⟩ := blk_f g1
  have HO := Lib.hid hO
  clear hO hb1
  go_wp2_with fail
  refine bodyPost_ret (v := .agg #[.int .i64 f, .int .i64 s, .slice A1 q.length c1, .int .i64 wd, .bool st]) (by simp [results, Try.results61, go_sem, q0, q1, q2, q3, q4]) rfl ?_
  refine ⟨_, rfl, ((((((HO.out.other (by omega)).other (by omega)).other (by omega)).other (by omega)).other (by omega)).other (by omega)).lower (by omega), ?_⟩
  exact ((((((B1.setCell (Nat.le_refl _) _).setCell (Nat.le_succ _) _).setCell (Nat.le_succ _) _).setCell (Nat.le_succ _) _).setCell (Nat.le_succ _) _).setCell (Nat.le_succ _) _)
end Go.Proofs.Yteikggieekhfkaa
