/- slices.Insert of one number into a row of the call's own, slices.BinarySearch of numbers. -/
import Derived.Test.YteikggieekhfkaaSgLib
import Derived.Test.YteikggieekhfkaaBytesEq
import Derived.Test.YteikggieekhfkaaShelf
import Derived.Test.YteikggieekhfkaaCodes
namespace Go.Proofs.Yteikggieekhfkaa
open Go.RowKit

theorem addr_lit (g j : Nat) : (⟨g, 0, none⟩ : Addr).add j = ⟨g, j, none⟩ := by by_cases h : j = 0 <;> simp [Addr.add, h]
theorem Blk.at {w : World} {b : Nat} {C : Array Value} {t : TypeId} (h : Blk w b C t) (k : Nat) : w.cell? ⟨b, k, none⟩ = C[k]? := by
  unfold Blk at h
  simp [World.cell?, h]
theorem Blk.sets {b : Nat} {t : TypeId} : ∀ (vs : List Value) (o : Nat) (w : World) (C : Array Value), Blk w b C t → ∃ C', Blk (w.setCells b o vs) b C' t ∧ C'.size = C.size
  | [], _, _, C, h => ⟨C, h, rfl⟩
  | v :: r, o, w, C, h => by
    obtain ⟨C', h1, h2⟩ := Blk.sets r (o + 1) _ _ (h.set1 o v)
    exact ⟨C', h1, by rw [h2]; first | done | simp⟩
theorem row_of {w : World} {b base n cap : Nat} {C : Array Value} {L : List Value} (h : Blk w b C 3) (hs : C.size = cap) (hb : base ≤ b) (hn : n ≤ cap) (hc : cap ≤ maxLen) (hL : L.length = n) (hcell : ∀ j v, L[j]? = some v → w.cell? ⟨b, j, none⟩ = some v) :
    w.ownsRow base 3 1 (.slice (some ⟨b, 0, none⟩) n cap) n L := by
  refine ⟨by rw [Nat.mul_one]; exact hL, .inr ⟨b, cap, C, rfl, hb, h, hn, hc, by rw [Nat.mul_one]; exact hs, ?_⟩⟩
  rw [Nat.mul_one]
  apply List.ext_getElem?
  intro j
  rw [List.getElem?_take]
  by_cases hj : j < n
  · rw [if_pos hj, List.getElem?_eq_getElem (show j < L.length by omega), Array.getElem?_toList, ← h.at j]
    exact hcell j _ (List.getElem?_eq_getElem (show j < L.length by omega))
  · rw [if_neg hj, List.getElem?_eq_none (by omega)]
theorem setCell_grownI (w : World) (g k : Nat) (u : Value) : w.grownBy (w.setCell ⟨g, k, none⟩ u) (some g) :=
  ⟨rfl, rfl, rfl, by simp, fun j hj hne => Below.heap_setCell w ⟨g, k, none⟩ u j (fun e => hne (by rw [e]))⟩
theorem Next.set {w : World} {g k : Nat} {u v : Value} (hv : v.ownBlock = some g) : Next w (w.setCell ⟨g, k, none⟩ u) v v := ⟨by rw [hv]; exact setCell_grownI w g k u, .inl rfl⟩
theorem Next.sets {g : Nat} {v : Value} (hv : v.ownBlock = some g) : ∀ (vs : List Value) (o : Nat) (w : World), Next w (w.setCells g o vs) v v
  | [], _, w => Next.refl w v
  | _ :: r, o, _ => (Next.set hv).trans (Next.sets hv r (o + 1) _)
theorem Next.dr (w : World) (v : Value) : Next w w.drew v v := ⟨⟨rfl, rfl, rfl, Nat.le_refl _, fun _ _ _ => rfl⟩, .inl rfl⟩
theorem Below.sets {B g : Nat} (hB : B ≤ g) : ∀ (vs : List Value) (o : Nat) {w0 : World} (w : World), Below B w0 w → Below B w0 (w.setCells g o vs)
  | [], _, _, _, h => h
  | _ :: r, o, _, _, h => Below.sets hB r (o + 1) _ (h.setCell hB _)
theorem Next.new {w w' : World} {v v' : Value} (hb : Below w.heap.size w w') (hv : v'.ownBlock = some w.heap.size) : Next w w' v v' :=
  ⟨⟨hb.os, hb.tape, hb.output, hb.size, fun k hk _ => hb.block k hk⟩, .inr ⟨_, hv, Nat.le_refl _⟩⟩
theorem new_row (w : World) {base : Nat} (hb : base ≤ w.heap.size) (L : List Value) {n K : Nat} (hn : L.length = n) (hK1 : n ≤ K) (hK2 : K ≤ maxLen) (Z : Array Value) (hZ : Z.size = K - n) :
    (w.drew.alloc (.cells (L.toArray ++ Z) 3)).ownsRow base 3 1 (.slice (some ⟨w.heap.size, 0, none⟩) n K) n L := by
  have hB : Blk (w.drew.alloc (.cells (L.toArray ++ Z) 3)) w.heap.size (L.toArray ++ Z) 3 := Blk.new w.drew _ _
  refine row_of hB (by simp [hZ, hn]; omega) hb hK1 hK2 hn fun j u hj => ?_
  rw [hB.at j]
  have hlt : j < L.length := (List.getElem?_eq_some_iff.1 hj).1
  rw [Array.getElem?_append_left (by simpa using hlt)]
  simpa using hj
theorem zeros_size (k : Nat) : (Builtin.zeroCells (Value.int .i64 0).cells k).size = k := by simp [Builtin.zeroCells, Value.cells]
def insL (xs : List Int) (i : Nat) (x : Int) : List Int := xs.take i ++ x :: xs.drop i
theorem insL_len (xs : List Int) (i : Nat) (x : Int) (h : i ≤ xs.length) : (insL xs i x).length = xs.length + 1 := by
  simp [insL]; omega
theorem insL_get (xs : List Int) (i : Nat) (x : Int) (h : i ≤ xs.length) (j : Nat) : (insL xs i x)[j]? = if j < i then xs[j]? else if j = i then some x else xs[j - 1]? := by
  unfold insL
  have hl : (xs.take i).length = i := by simp; omega
  by_cases h1 : j < i
  · rw [if_pos h1, List.getElem?_append_left (by omega), List.getElem?_take, if_pos h1]
  · rw [if_neg h1, List.getElem?_append_right (by omega), hl]
    by_cases h2 : j = i
    · rw [if_pos h2, h2, Nat.sub_self]; rfl
    · rw [if_neg h2, show j - i = (j - i - 1) + 1 by omega, List.getElem?_cons_succ, List.getElem?_drop]
      congr 1
      omega
/-- what Insert leaves -/
def InsPost (base : Nat) (v : Value) (L : List Int) (w : World) (e : Ending) (w' : World) : Prop := ∃ v', e = .returned v' ∧ OwnI w' base v' L ∧ Next w w' v v'
set_option maxHeartbeats 1000000 in
theorem insert_any (v : Value) (xs : List Int) (i : Nat) (x : Int) (base vb : Nat) (w : World) (hown : OwnI w base v xs) (hi : i ≤ xs.length) (hl : xs.length ≤ 100000) (hx : Blk w vb #[.int .i64 x] 3) (hvb : v.ownBlock ≠ some vb) (hbase : base ≤ w.heap.size) :
    Calls Try.prog 99 #[v, .int .i64 (i : Int), .slice (some ⟨vb, 0, none⟩) 1 1] w (InsPost base v (insL xs i x) w) := by
  have hvs : ∀ j u, ([Value.int .i64 x] : List Value)[j]? = some u → w.cell? ⟨vb, 0 + j, none⟩ = some u := fun j u hj => by
    rw [Nat.zero_add, hx.at j]
    simpa using hj
  have h1v : ∀ u ∈ ([Value.int .i64 x] : List Value), u.oneCell' = true := fun u hu => by
    obtain rfl := List.mem_singleton.1 hu
    rfl
  have hil := insL_len xs i x hi
  rcases hown.2 with ⟨rfl, h0⟩ | ⟨g, cap, cur, rfl, hb, hg, hnc, hcm, hcs, hct⟩
  · obtain rfl : xs = [] := List.eq_nil_of_length_eq_zero h0
    obtain rfl : i = 0 := by simpa using hi
    refine (Any2.slices_Insert_int_end_grow Try.lays21 none 0 0 vb 0 1 1 [] [.int .i64 x] w (by omega) (by omega) (by omega) (by omega) rfl rfl (fun _ => rfl) (fun a e => by cases e) hvs h1v).mono ?_
    rintro e w' ⟨rfl, rfl⟩
    refine ⟨_, rfl, ?_, Next.new (((Below.refl _ _).drew).alloc (Nat.le_refl _) _) rfl⟩
    exact new_row w hbase [.int .i64 x] rfl (grownCap_ge _ _ _ _) (grownCap_le_maxLen _ _ _ _ (by simp [maxLen])) _ (zeros_size _)
  · have hgB : Blk w g cur 3 := hg
    have hcell : ∀ j u, (xs.map iv)[j]? = some u → w.cell? ⟨g, j, none⟩ = some u := fun j u hj => by
      rw [hgB.at j, ← Array.getElem?_toList, ← hct] at *
      rw [Nat.mul_one, List.getElem?_take] at hj
      split at hj
      · exact hj
      · cases hj
    have hcs' : cur.size = cap := by rw [hcs, Nat.mul_one]
    have hvg : vb ≠ g := fun e => hvb (by rw [e]; rfl)
    have hsome : ∀ j, j < cap → (w.cell? ⟨g, 0 + j, none⟩).isSome = true := fun j hj => by
      rw [Nat.zero_add, hgB.at j, Array.getElem?_eq_getElem (by omega)]
      rfl
    have hfz : ∀ j, w.frozen? ⟨g, j, none⟩ = false := fun j => hgB.free j
    have h1c : ∀ u ∈ xs.map iv, u.oneCell' = true := iv_one xs
    have hlv : (xs.map iv).length = xs.length := by simp
    have hvg' : (Value.slice (some ⟨g, 0, none⟩) xs.length cap).ownBlock = some g := rfl
    have hgl := hgB.lt
    by_cases hroom : xs.length + 1 ≤ cap
    · by_cases hin : i < xs.length
      · refine (Any2.slices_Insert_int_shift Try.lays21 g 0 xs.length cap i vb 0 1 1 (xs.map iv) [.int .i64 x] w hin (by omega) hroom (by unfold maxLen at hcm; omega) hvg hlv rfl (fun j u hj => by rw [Nat.zero_add]; exact hcell j u hj) (fun j hj => hsome j (by omega)) (fun j hj => hfz _) hvs h1c h1v 3 3 1 cap (by unfold World.shape?; rw [show w.heap[vb]? = _ from hx]; rfl) (by unfold World.shape?; rw [show w.heap[g]? = _ from hg]; show some (3, cur.size) = _; rw [hcs']) (by omega) (hx.free 0) (hx.free 1)).mono ?_
        rintro e w' ⟨rfl, rfl⟩
        obtain ⟨C1, hC1, hs1⟩ := Blk.sets ((xs.map iv).drop i) (0 + (i + 1)) w.drew cur hgB
        obtain ⟨C2, hC2, hs2⟩ := Blk.sets [.int .i64 x] (0 + i) _ C1 hC1
        refine ⟨_, rfl, ?_, ((Next.dr w _).trans (Next.sets hvg' _ _ _)).trans (Next.sets hvg' _ _ _)⟩
        show World.ownsRow _ base 3 1 (.slice (some ⟨g, 0, none⟩) (xs.length + 1) cap) (insL xs i x).length _
        rw [hil]
        refine row_of hC2 (by rw [hs2, hs1, hcs']) hb hroom hcm (by simp [hil]) fun j u hj => ?_
        rw [List.getElem?_map, insL_get xs i x hi] at hj
        by_cases h1 : j < i
        · rw [if_pos h1] at hj
          rw [World.cell?_setCells_out g _ _ _ _ (fun _ _ => .inl (by show j < 0 + i; omega)), World.cell?_setCells_out g _ _ _ _ (fun _ _ => .inl (by show j < 0 + (i + 1); omega))]
          exact hcell j u (by rw [List.getElem?_map]; exact hj)
        · rw [if_neg h1] at hj
          by_cases h2 : j = i
          · subst h2
            rw [if_pos rfl] at hj
            have := World.cell?_setCells_in g [.int .i64 x] (0 + j) (w.drew.setCells g (0 + (j + 1)) ((xs.map iv).drop j)) (fun k hk => by
              obtain rfl : k = 0 := by simpa using hk
              rw [World.cell?_setCells_out g _ _ _ _ (fun _ _ => .inl (by show 0 + j + 0 < 0 + (j + 1); omega))]
              have := hsome j (by omega)
              simpa using this) 0 (by simp)
            rw [show 0 + j + 0 = j by omega] at this
            rw [this]
            simpa [iv] using hj
          · rw [if_neg h2] at hj
            rw [World.cell?_setCells_out g _ _ _ _ (fun _ _ => .inr (by show 0 + i + 1 ≤ j; omega))]
            have hlt : j - 1 < xs.length := by
              have := (List.getElem?_eq_some_iff.1 (show (xs.map iv)[j - 1]? = some u by rw [List.getElem?_map]; exact hj)).1
              simpa using this
            have := World.cell?_setCells_in g ((xs.map iv).drop i) (0 + (i + 1)) w.drew (fun k hk => by
              have h3 : 0 + (i + 1) + k < cap := by simp at hk; omega
              have := hsome (0 + (i + 1) + k) h3
              rw [Nat.zero_add] at this
              exact this) (j - (i + 1)) (by simp; omega)
            rw [show 0 + (i + 1) + (j - (i + 1)) = j by omega] at this
            rw [this, ← hj, List.getElem_drop, List.getElem_map]
            rw [List.getElem?_eq_getElem hlt]
            simp only [Option.map_some, show i + (j - (i + 1)) = j - 1 by omega]
      · obtain rfl : i = xs.length := by omega
        refine (Any2.slices_Insert_int_end_room Try.lays21 g 0 xs.length cap vb 0 1 1 [.int .i64 x] w (by omega) hroom (by unfold maxLen at hcm; omega) rfl (fun j hj => by
          obtain rfl : j = 0 := by omega
          have := hsome xs.length (by omega)
          simpa using this) (fun j hj => hfz _) hvs h1v).mono ?_
        rintro e w' ⟨rfl, rfl⟩
        obtain ⟨C2, hC2, hs2⟩ := Blk.sets [.int .i64 x] (0 + xs.length) w cur hgB
        refine ⟨_, rfl, ?_, Next.sets hvg' _ _ _⟩
        show World.ownsRow _ base 3 1 (.slice (some ⟨g, 0, none⟩) (xs.length + 1) cap) (insL xs xs.length x).length _
        rw [hil]
        refine row_of hC2 (by rw [hs2, hcs']) hb hroom hcm (by simp [hil]) fun j u hj => ?_
        rw [List.getElem?_map, insL_get xs xs.length x hi] at hj
        by_cases h1 : j < xs.length
        · rw [if_pos h1] at hj
          rw [World.cell?_setCells_out g _ _ _ _ (fun _ _ => .inl (by show j < 0 + xs.length; omega))]
          exact hcell j u (by rw [List.getElem?_map]; exact hj)
        · rw [if_neg h1] at hj
          by_cases h2 : j = xs.length
          · subst h2
            rw [if_pos rfl] at hj
            have := World.cell?_setCells_in g [.int .i64 x] (0 + xs.length) w (fun k hk => by
              obtain rfl : k = 0 := by simpa using hk
              have := hsome xs.length (by omega)
              simpa using this) 0 (by simp)
            rw [Nat.add_zero, Nat.zero_add] at this
            rw [Nat.zero_add]
            rw [this]
            simpa [iv] using hj
          · rw [if_neg h2, List.getElem?_eq_none (by omega)] at hj
            cases hj
    · by_cases hin : i < xs.length
      · have H : Calls Try.prog 99 #[.slice (some ⟨g, 0, none⟩) xs.length cap, .int .i64 (i : Int), .slice (some ⟨vb, 0, none⟩) 1 1] w fun e w' =>
            e = .returned (.slice (some ⟨w.heap.size, 0, none⟩) (xs.length + 1) (grownCap w (xs.length + 1) cap 3)) ∧
            w' = (((w.alloc (.cells (((xs.map iv).take i).toArray ++ Builtin.zeroCells (Value.int .i64 0).cells (xs.length + 1 - i) ++ Builtin.zeroCells (Value.int .i64 0).cells (grownCap w (xs.length + 1) cap 3 - (xs.length + 1))) 3)).drew.setCells w.heap.size i [.int .i64 x]).drew).setCells w.heap.size (i + 1) ((xs.map iv).drop i) :=
          Any2.slices_Insert_int_grow Try.lays21 g 0 xs.length cap i vb 0 1 1 (xs.map iv) [.int .i64 x] w hin (by omega) hnc (by omega) (by omega) hlv rfl (fun j u hj => by rw [Nat.zero_add]; exact hcell j u hj) hvs h1c h1v
        have hK1 := grownCap_ge w (xs.length + 1) cap 3
        have hK2 := grownCap_le_maxLen w (xs.length + 1) cap 3 (by unfold maxLen; omega)
        have hBN : Blk (w.alloc (.cells (((xs.map iv).take i).toArray ++ Builtin.zeroCells (Value.int .i64 0).cells (xs.length + 1 - i) ++ Builtin.zeroCells (Value.int .i64 0).cells (grownCap w (xs.length + 1) cap 3 - (xs.length + 1))) 3)).drew w.heap.size (((xs.map iv).take i).toArray ++ Builtin.zeroCells (Value.int .i64 0).cells (xs.length + 1 - i) ++ Builtin.zeroCells (Value.int .i64 0).cells (grownCap w (xs.length + 1) cap 3 - (xs.length + 1))) 3 := Blk.new w _ _
        have hbn : Below w.heap.size w (w.alloc (.cells (((xs.map iv).take i).toArray ++ Builtin.zeroCells (Value.int .i64 0).cells (xs.length + 1 - i) ++ Builtin.zeroCells (Value.int .i64 0).cells (grownCap w (xs.length + 1) cap 3 - (xs.length + 1))) 3)).drew := ((Below.refl _ _).alloc (Nat.le_refl _) _).drew
        have hsz : (((xs.map iv).take i).toArray ++ Builtin.zeroCells (Value.int .i64 0).cells (xs.length + 1 - i) ++ Builtin.zeroCells (Value.int .i64 0).cells (grownCap w (xs.length + 1) cap 3 - (xs.length + 1))).size = grownCap w (xs.length + 1) cap 3 := by
          rw [Array.size_append, Array.size_append, zeros_size, zeros_size]
          simp
          omega
        have hfirst : ∀ j u, j < i → (xs.map iv)[j]? = some u → (((xs.map iv).take i).toArray ++ Builtin.zeroCells (Value.int .i64 0).cells (xs.length + 1 - i) ++ Builtin.zeroCells (Value.int .i64 0).cells (grownCap w (xs.length + 1) cap 3 - (xs.length + 1)))[j]? = some u := fun j u hj hu => by
          rw [Array.append_assoc, Array.getElem?_append_left (by simp; omega)]
          simp only [List.getElem?_toArray]
          rw [List.getElem?_take, if_pos hj]
          exact hu
        generalize (((xs.map iv).take i).toArray ++ Builtin.zeroCells (Value.int .i64 0).cells (xs.length + 1 - i) ++ Builtin.zeroCells (Value.int .i64 0).cells (grownCap w (xs.length + 1) cap 3 - (xs.length + 1))) = CC at *
        generalize grownCap w (xs.length + 1) cap 3 = K at *
        refine H.mono ?_
        rintro e w' ⟨rfl, rfl⟩
        obtain ⟨C1, hC1, hs1⟩ := Blk.sets [.int .i64 x] i _ CC hBN
        obtain ⟨C2, hC2, hs2⟩ := Blk.sets ((xs.map iv).drop i) (i + 1) ((w.alloc (.cells CC 3)).drew.setCells w.heap.size i [.int .i64 x]).drew C1 hC1
        have hsome0 : ∀ j, j < K → ((w.alloc (.cells CC 3)).drew.cell? ⟨w.heap.size, j, none⟩).isSome = true := fun j hj => by
          rw [hBN.at j, Array.getElem?_eq_getElem (by omega)]
          rfl
        have hsome1 : ∀ j, j < K → (((w.alloc (.cells CC 3)).drew.setCells w.heap.size i [.int .i64 x]).drew.cell? ⟨w.heap.size, j, none⟩).isSome = true := fun j hj => by
          have : Blk ((w.alloc (.cells CC 3)).drew.setCells w.heap.size i [.int .i64 x]).drew w.heap.size C1 3 := hC1
          rw [this.at j, Array.getElem?_eq_getElem (by omega)]
          rfl
        refine ⟨_, rfl, ?_, Next.new (Below.sets (Nat.le_refl _) _ _ _ (Below.sets (Nat.le_refl _) _ _ _ hbn).drew) rfl⟩
        show World.ownsRow _ base 3 1 (.slice (some ⟨w.heap.size, 0, none⟩) (xs.length + 1) K) (insL xs i x).length _
        rw [hil]
        refine row_of hC2 (by rw [hs2, hs1, hsz]) hbase hK1 hK2 (by simp [hil]) fun j u hj => ?_
        rw [List.getElem?_map, insL_get xs i x hi] at hj
        by_cases h1 : j < i
        · rw [if_pos h1] at hj
          rw [World.cell?_setCells_out w.heap.size _ _ _ _ (fun _ _ => .inl (by show j < i + 1; omega))]
          show ((w.alloc (.cells CC 3)).drew.setCells w.heap.size i [.int .i64 x]).cell? _ = _
          rw [World.cell?_setCells_out w.heap.size _ _ _ _ (fun _ _ => .inl (by show j < i; omega)), hBN.at j]
          exact hfirst j u h1 (by rw [List.getElem?_map]; exact hj)
        · rw [if_neg h1] at hj
          by_cases h2 : j = i
          · subst h2
            rw [if_pos rfl] at hj
            rw [World.cell?_setCells_out w.heap.size _ _ _ _ (fun _ _ => .inl (by show j < j + 1; omega))]
            show ((w.alloc (.cells CC 3)).drew.setCells w.heap.size j [.int .i64 x]).cell? _ = _
            have := World.cell?_setCells_in w.heap.size [.int .i64 x] j (w.alloc (.cells CC 3)).drew (fun k hk => by
              obtain rfl : k = 0 := by simpa using hk
              exact hsome0 j (by omega)) 0 (by simp)
            rw [Nat.add_zero] at this
            rw [this]
            simpa [iv] using hj
          · rw [if_neg h2] at hj
            have hlt : j - 1 < xs.length := by
              have := (List.getElem?_eq_some_iff.1 (show (xs.map iv)[j - 1]? = some u by rw [List.getElem?_map]; exact hj)).1
              simpa using this
            have := World.cell?_setCells_in w.heap.size ((xs.map iv).drop i) (i + 1) ((w.alloc (.cells CC 3)).drew.setCells w.heap.size i [.int .i64 x]).drew (fun k hk => hsome1 _ (by simp at hk; omega)) (j - (i + 1)) (by simp; omega)
            rw [show i + 1 + (j - (i + 1)) = j by omega] at this
            rw [this, ← hj, List.getElem_drop, List.getElem_map]
            rw [List.getElem?_eq_getElem hlt]
            simp only [Option.map_some, show i + (j - (i + 1)) = j - 1 by omega]
      · obtain rfl : i = xs.length := by omega
        refine (Any2.slices_Insert_int_end_grow Try.lays21 (some ⟨g, 0, none⟩) xs.length cap vb 0 1 1 (xs.map iv) [.int .i64 x] w (by omega) hnc (by omega) (by omega) hlv rfl (fun q => by cases q) (fun a e j u hj => by
          injection e with e
          subst e
          rw [addr_lit g j]
          exact hcell j u hj) hvs h1v).mono ?_
        rintro e w' ⟨rfl, rfl⟩
        refine ⟨_, rfl, ?_, Next.new (((Below.refl _ _).drew).alloc (Nat.le_refl _) _) rfl⟩
        show World.ownsRow _ base 3 1 _ (insL xs xs.length x).length _
        rw [hil]
        have hE : (insL xs xs.length x).map iv = xs.map iv ++ [.int .i64 x] := by simp [insL, iv]
        rw [hE]
        have hr := new_row w hbase (xs.map iv ++ [.int .i64 x]) (n := xs.length + 1) (K := grownCap w (xs.length + 1) cap 3) (by simp) (grownCap_ge _ _ _ _) (grownCap_le_maxLen _ _ _ _ (by unfold maxLen; omega)) (Builtin.zeroCells (Value.int .i64 0).cells (grownCap w (xs.length + 1) cap 3 - (xs.length + 1))) (zeros_size _)
        exact hr
end Go.Proofs.Yteikggieekhfkaa
