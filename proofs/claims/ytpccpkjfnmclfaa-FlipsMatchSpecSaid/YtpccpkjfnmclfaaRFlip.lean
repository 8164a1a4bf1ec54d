/- one bit of a flash turned, by the reference. -/
import Derived.Test.YtpccpkjfnmclfaaRPen
import Derived.Test.YtpccpkjfnmclfaaRChkFlash
import Derived.Laws.BitsAllLaws
namespace Go.Proofs.Ytpccpkjfnmclfaa
open Go.RowKit

def noneV : Value := .slice none 0 0
/-- the fault of a flip -/
def flipC (b p s t : Int) (n : Nat) (v x : List Int) : Int := if flashS b p s n v x = 0 then (if 0 ≤ t ∧ t ≤ 8 * (n : Int) - 1 then 0 else 1) else flashS b p s n v x
/-- bytes with a bit turned, counted from the first byte's highest -/
def turned (d : List UInt8) (t : Nat) : List UInt8 := d.set (t / 8) (d.getD (t / 8) 0 ^^^ UInt8.ofNat (128 / 2 ^ (t % 8)))
/-- what a flip answers -/
def FlipPost (b p s t : Int) (d : List UInt8) (v x : List Int) (X : Value) (w : World) (e : Ending) (w' : World) : Prop :=
  ∃ F, e = .returned (.tuple #[F, .int .i64 (flipC b p s t d.length v x)]) ∧ Below w.heap.size w w' ∧
    (flipC b p s t d.length v x ≠ 0 → F = flV 0 0 0 noneV noneV noneV) ∧
    (flipC b p s t d.length v x = 0 → ∃ vD vV vX, F = flV b p s vD vV vX ∧ Own w' w.heap.size vD (turned d t.toNat) ∧ OwnI w' w.heap.size vV v ∧ (vX = X ∨ OwnI w' w.heap.size vX x))
theorem HeldPen.cells {w : World} {P : Nat} {b p s z : Int} {D V X : Value} (h : HeldPen w P b p s D V X z) : w.cell? ⟨P, 0, none⟩ = some (.int .i64 b) ∧ w.cell? ⟨P, 1, none⟩ = some (.int .i64 p) ∧ w.cell? ⟨P, 2, none⟩ = some (.int .i64 s) ∧ w.cell? ⟨P, 3, none⟩ = some D ∧ w.cell? ⟨P, 4, none⟩ = some V ∧ w.cell? ⟨P, 5, none⟩ = some X := by
  unfold HeldPen at h
  exact ⟨by simp [World.cell?, h], by simp [World.cell?, h], by simp [World.cell?, h], by simp [World.cell?, h], by simp [World.cell?, h], by simp [World.cell?, h]⟩
theorem RowY.notPen {w : World} {g cap P : Nat} {l : List UInt8} {b p s z : Int} {D V X : Value} (h : RowY w g cap l) (hP : HeldPen w P b p s D V X z) : g ≠ P := by
  rintro rfl
  obtain ⟨cur, h1, _⟩ := h
  unfold HeldPen at hP
  rw [h1] at hP
  simp at hP
theorem OwnI.otherG {w : World} {base g cap k : Nat} {v u : Value} {l : List Int} {d : List UInt8} (h : OwnI w base v l) (hr : RowY w g cap d) : OwnI (w.setCell ⟨g, k, none⟩ u) base v l := by
  refine ⟨h.1, ?_⟩
  rcases h.2 with e | ⟨g', cap', cur, e, hg, hh, r⟩
  · exact .inl e
  · refine .inr ⟨g', cap', cur, e, hg, (Below.heap_setCell w ⟨g, k, none⟩ u g' ?_).trans hh, r⟩
    rintro rfl
    obtain ⟨cur2, h1, _⟩ := hr
    rw [hh] at h1
    simp at h1
theorem turn_byte (a : UInt8) (k : Nat) (_hk : k < 8) : bits .xor .u8 (a.toNat : Int) (128 / 2 ^ k) = ((a ^^^ UInt8.ofNat (128 / 2 ^ k)).toNat : Int) := by
  have ha := a.toNat_lt
  have e1 : ((128 : Int) / 2 ^ k) = ((128 / 2 ^ k : Nat) : Int) := by
    rw [Int.natCast_ediv, Int.natCast_pow]; rfl
  have hb : 128 / 2 ^ k < 256 := Nat.lt_of_le_of_lt (Nat.div_le_self _ _) (by omega)
  rw [e1, UInt8.toNat_xor]
  have e2 : (UInt8.ofNat (128 / 2 ^ k)).toNat = 128 / 2 ^ k := by
    have : (UInt8.ofNat (128 / 2 ^ k)).toNat = 128 / 2 ^ k % 256 := UInt8.toNat_ofNat'
    rw [this]; exact Nat.mod_eq_of_lt hb
  rw [e2]
  exact u8_xor_nat _ _ (by omega) hb
theorem turned_len (d : List UInt8) (t : Nat) : (turned d t).length = d.length := by simp [turned]
theorem turned_is (d : List UInt8) (t : Nat) (h : t / 8 < d.length) : turned d t = d.set (t / 8) (d[t / 8] ^^^ UInt8.ofNat (128 / 2 ^ (t % 8))) := by
  unfold turned
  have e : d.getD (t / 8) 0 = d[t / 8] := by simp [List.getD, h]
  rw [e]
def boxed3 (b p s : Int) (D V X : Value) (w : World) : World := (w.alloc (.cells #[.int .i64 b, .int .i64 p, .int .i64 s, D, V, X] 45)).alloc (.cells #[.int .i64 0, .int .i64 0, .int .i64 0, .slice none 0 0, .slice none 0 0, .slice none 0 0] 45)
set_option maxRecDepth 100000 in
set_option maxHeartbeats 1000000 in
theorem rFlip_any (b p s t : Int) (AD AV AX : Option Addr) (c c' c'' : Nat) (d : List UInt8) (v x : List Int) (B : Nat) (w : World) (hB : B ≤ w.heap.size) (hv : v.length ≤ 9223372036854775807) (hx : x.length ≤ 9223372036854775807) (h : BR w B AD d) (h' : IR w B AV v) (h'' : IR w B AX x) :
    Calls Try.prog 23 #[flV b p s (.slice AD d.length c) (.slice AV v.length c') (.slice AX x.length c''), .int .i64 t] w (FlipPost b p s t d v x (.slice AX x.length c'') w) := by
  have HC := Lib.hid (fun (w1 : World) (hb : Below w.heap.size w w1) => rcheckFlash_any b p s AD AV AX d.length c c' c'' v x B w1 (Nat.le_trans hB hb.size) hv hx (h'.below (hb.mono hB)) (h''.below (hb.mono hB)))
  unfold flV
  obtain ⟨w0, hw0⟩ : ∃ w0, boxed3 b p s (.slice AD d.length c) (.slice AV v.length c') (.slice AX x.length c'') w = w0 := ⟨_, rfl⟩
  have z0 : w0.heap.size = w.heap.size + 2 := by rw [← hw0]; simp [boxed3]
  have b0 : Below w.heap.size w w0 := by rw [← hw0]; exact (boxF _ _).alloc (by simp) _
  have h0 : HeldF w0 w.heap.size b p s (.slice AD d.length c) (.slice AV v.length c') (.slice AX x.length c'') := by
    rw [← hw0]
    exact (HeldF.new w b p s _ _ _).below (boxF _ _) (by simp)
  have r0 : HeldF w0 (w.heap.size + 1) 0 0 0 noneV noneV noneV := by
    rw [← hw0]
    have := HeldF.new (w.alloc (.cells #[.int .i64 b, .int .i64 p, .int .i64 s, .slice AD d.length c, .slice AV v.length c', .slice AX x.length c''] 45)) 0 0 0 noneV noneV noneV
    rw [World.size_alloc] at this
    exact this
  have HW0 := Lib.hid hw0
  clear hw0
  obtain ⟨C, hC⟩ : ∃ C, C = flashS b p s d.length v x := ⟨_, rfl⟩
  rw [← hC] at HC
  have hF : flipC b p s t d.length v x = if C = 0 then (if 0 ≤ t ∧ t ≤ 8 * (d.length : Int) - 1 then 0 else 1) else C := by rw [hC]; rfl
  have HF := Lib.hid hF
  have HCE := Lib.hid hC
  clear hF hC
  obtain ⟨e0, e1, e2, e3, e4, e5⟩ := h0.cells
  by_cases hc0 : C = 0
  · have hok : FlOk b p s d.length v x := flash_ok (HCE.out.symm.trans hc0)
    have hl1 := hok.len
    have hl2 := hok.few
    have hne : (C != 0) = false := by simpa using hc0
    by_cases ht : 0 ≤ t ∧ t ≤ 8 * (d.length : Int) - 1
    · have HF1 : Hid (flipC b p s t d.length v x = 0) := by unfold Hid; rw [HF.out, if_pos hc0, if_pos ht]
      have t1 : decide (0 ≤ t ∧ t ≤ 8 * (d.length : Int) - 1) = true := decide_eq_true ht
      have hdl : (d.length : Int) ≤ 262144 := by omega
      have hvl : v.length ≤ 64 := by have := hok.wear; have := hok.hb; omega
      obtain ⟨T, rfl⟩ : ∃ T : Nat, t = (T : Int) := ⟨t.toNat, by omega⟩
      have hT : T / 8 < d.length := by omega
      have t2 : decide ((T : Int) ≤ 8 * (d.length : Int) - 1) = true := decide_eq_true ht.2
      have HN := Lib.hid (fun (w1 : World) (hb : Below w.heap.size w w1) => newPen_any b p s (-1) AD AV (.slice AX x.length c'') c c' d v B w1 (Nat.le_trans hB hb.size) (h.below (hb.mono hB)) (h'.below (hb.mono hB)) (by omega) (by omega))
      unfold flV at HN
      clear ht hok hl1 hl2
      go_enter Try.func23, Try.ntmps23
      go_upto_region 1 with fail
      have e := HW0.out
      unfold boxed3 at e
      rw [e]
      clear e
      go_wp2_with (first | (go_at_call 57; refine (HC.out _ b0).mono ?_; rintro e w1 ⟨rfl, hb1⟩; have h1 := r0.below hb1 (by omega); have g1 := h0.below hb1 (by omega); obtain ⟨f0, f1, f2, f3, f4, f5⟩ := h1.cells; obtain ⟨e0, e1, e2, e3, e4, e5⟩ := g1.cells; have q0 := h1.free 0; have q1 := h1.free 1; have q2 := h1.free 2; have q3 := h1.free 3; have q4 := h1.free 4; have q5 := h1.free 5; have z1 := hb1.size) | (go_at_call 58; refine (fwithin_any _ _ _ _).mono ?_; rintro e w' ⟨rfl, rfl⟩) | (go_at_call 59; refine (HN.out _ (b0.trans (hb1.mono (by omega)))).mono ?_; rintro e w2 ⟨P, vD, vV, rfl, hP, oD, oV, hPz, hb2⟩; obtain ⟨g, cap, rfl, hg, hr⟩ := oD.row (by omega); obtain ⟨A2, k2, rfl, r2⟩ := oV.form; have h2 := h1.below hb2 (by omega); obtain ⟨f0, f1, f2, f3, f4, f5⟩ := h2.cells; have q0 := h2.free 0; have q1 := h2.free 1; have q2 := h2.free 2; have q3 := h2.free 3; have q4 := h2.free 4; have q5 := h2.free 5; obtain ⟨p0, p1, p2, p3, p4, p5⟩ := hP.cells; have hgP : g ≠ P := hr.notPen hP; have hPg : P ≠ g := fun e => hgP e.symm; have hgr : w.heap.size + 1 < g := Nat.lt_of_lt_of_le (Nat.lt_of_lt_of_le (Nat.lt_of_lt_of_eq (Nat.lt_succ_self _) z0.symm) z1) hg; have hgr' : g ≠ w.heap.size + 1 := Nat.ne_of_gt hgr; have hgr'' : w.heap.size + 1 ≠ g := Nat.ne_of_lt hgr; have hlr : w.heap.size + 1 < w1.heap.size := Nat.lt_of_lt_of_le (Nat.lt_of_lt_of_eq (Nat.lt_succ_self _) z0.symm) z1; have y0 := hr.cell (T / 8) hT; have y1 := hr.free (T / 8); have z2 := hb2.size) | fail)
      have bb : Below w.heap.size w w2 := (b0.trans (hb1.mono (by omega))).trans (hb2.mono (by omega))
      have hx := turn_byte d[T / 8] (T % 8) (by omega)
      rw [hx]
      have hs := hr.set (T / 8) (d[T / 8] ^^^ UInt8.ofNat (128 / 2 ^ (T % 8)))
      have hS := turned_is d T hT
      have hSl := turned_len d T
      refine bodyPost_ret (v := .tuple #[flV b p s (.slice (some ⟨g, 0, none⟩) d.length cap) (.slice A2 v.length k2) (.slice AX x.length c''), .int .i64 0]) (by simp [results, Try.results23, go_sem, f0, f1, f2, f3, f4, f5, flV]) rfl ?_
      refine ⟨_, by rw [HF1.out], ?_, fun q => absurd HF1.out q, fun _ => ⟨_, _, _, rfl, ?_, ?_, .inl rfl⟩⟩
      · exact ((((((bb.setCell (by show w.heap.size ≤ g; omega) _).setCell (by simp) _).setCell (by simp) _).setCell (by simp) _).setCell (by simp) _).setCell (by simp) _).setCell (by simp) _
      · rw [← hS] at hs
        have := (((((((hs.other (k := 0) (u := .int .i64 b) hgr').other (k := 1) (u := .int .i64 p) hgr').other (k := 2) (u := .int .i64 s) hgr').other (k := 3) (u := .slice (some ⟨g, 0, none⟩) d.length cap) hgr').other (k := 4) (u := .slice A2 v.length k2) hgr').other (k := 5) (u := .slice AX x.length c'') hgr').own w.heap.size (by omega))
        rw [hSl] at this
        rw [Int.toNat_natCast]
        exact this
      · have o := oV.otherG hr (k := T / 8) (u := .int .u8 ((d[T / 8] ^^^ UInt8.ofNat (128 / 2 ^ (T % 8))).toNat : Int))
        exact OwnI.lower ((((((o.otherI (k := 0) (u := .int .i64 b) hlr).otherI (k := 1) (u := .int .i64 p) hlr).otherI (k := 2) (u := .int .i64 s) hlr).otherI (k := 3) (u := .slice (some ⟨g, 0, none⟩) d.length cap) hlr).otherI (k := 4) (u := .slice A2 v.length k2) hlr).otherI (k := 5) (u := .slice AX x.length c'') hlr) (by omega)
    have HF1 : Hid (flipC b p s t d.length v x = 1) := by unfold Hid; rw [HF.out, if_pos hc0, if_neg ht]
    have t1 : decide (0 ≤ t ∧ t ≤ 8 * (d.length : Int) - 1) = false := decide_eq_false ht
    have hdl : (d.length : Int) ≤ 262144 := by omega
    clear ht hok hl1 hl2
    go_enter Try.func23, Try.ntmps23
    go_upto_region 1 with fail
    have e := HW0.out
    unfold boxed3 at e
    rw [e]
    clear e
    go_wp2_with (first | (go_at_call 57; refine (HC.out _ b0).mono ?_; rintro e w1 ⟨rfl, hb1⟩; have h1 := r0.below hb1 (by omega); have g1 := h0.below hb1 (by omega); obtain ⟨f0, f1, f2, f3, f4, f5⟩ := h1.cells; obtain ⟨e0, e1, e2, e3, e4, e5⟩ := g1.cells; have q0 := h1.free 0; have q1 := h1.free 1; have q2 := h1.free 2; have q3 := h1.free 3; have q4 := h1.free 4; have q5 := h1.free 5; have z1 := hb1.size) | (go_at_call 58; refine (fwithin_any _ _ _ _).mono ?_; rintro e w' ⟨rfl, rfl⟩) | fail)
    have bb : Below w.heap.size w w1 := b0.trans (hb1.mono (by omega))
    refine bodyPost_ret (v := .tuple #[flV 0 0 0 noneV noneV noneV, .int .i64 1]) (by simp [results, Try.results23, go_sem, f0, f1, f2, f3, f4, f5, flV, noneV]) rfl ?_
    refine ⟨_, by rw [HF1.out], ?_, fun _ => rfl, fun q => absurd (HF1.out.symm.trans q) (by decide)⟩
    exact (((((bb.setCell (by simp) _).setCell (by simp) _).setCell (by simp) _).setCell (by simp) _).setCell (by simp) _).setCell (by simp) _
  · have hne : (C != 0) = true := by simpa using hc0
    have HF1 : Hid (flipC b p s t d.length v x = C) := by unfold Hid; rw [HF.out, if_neg hc0]
    go_enter Try.func23, Try.ntmps23
    go_upto_region 1 with fail
    have e := HW0.out
    unfold boxed3 at e
    rw [e]
    clear e
    go_wp2_with (first | (go_at_call 57; refine (HC.out _ b0).mono ?_; rintro e w1 ⟨rfl, hb1⟩; have h1 := r0.below hb1 (by omega); have g1 := h0.below hb1 (by omega); obtain ⟨f0, f1, f2, f3, f4, f5⟩ := h1.cells; obtain ⟨e0, e1, e2, e3, e4, e5⟩ := g1.cells; have q0 := h1.free 0; have q1 := h1.free 1; have q2 := h1.free 2; have q3 := h1.free 3; have q4 := h1.free 4; have q5 := h1.free 5; have z1 := hb1.size) | (go_at_call 58; refine (fwithin_any _ _ _ _).mono ?_; rintro e w' ⟨rfl, rfl⟩) | fail)
    have bb : Below w.heap.size w w1 := b0.trans (hb1.mono (by omega))
    refine bodyPost_ret (v := .tuple #[flV 0 0 0 noneV noneV noneV, .int .i64 C]) (by simp [results, Try.results23, go_sem, f0, f1, f2, f3, f4, f5, flV, noneV]) rfl ?_
    refine ⟨_, by rw [HF1.out], ?_, fun _ => rfl, fun q => absurd (HF1.out.symm.trans q) hc0⟩
    exact (((((bb.setCell (by simp) _).setCell (by simp) _).setCell (by simp) _).setCell (by simp) _).setCell (by simp) _).setCell (by simp) _
end Go.Proofs.Ytpccpkjfnmclfaa
