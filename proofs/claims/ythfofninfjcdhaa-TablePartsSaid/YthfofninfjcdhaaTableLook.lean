/-
  The walks of the document's Where (looked for), of Right, the program's and the document's, and of the statements' own probe. By an AI agent.
-/
import Derived.Test.YthfofninfjcdhaaTableRef
set_option linter.unusedSimpArgs false
set_option linter.unusedVariables false
namespace Go.Proofs.Ythfofninfjcdhaa
open Go.RowKit
theorem Half.slice {w W : World} {n m : Nat} {v : Value} (h : Half w n m v W) : ∃ a c, v = .slice a m c := by
  rcases h.1.2 with ⟨rfl, rfl⟩ | ⟨g, cap, cur, rfl, _⟩
  · exact ⟨none, 0, rfl⟩
  · exact ⟨_, _, rfl⟩
theorem Half.at {w W : World} {n m : Nat} {a : Option Addr} {c : Nat} (h : Half w n m (.slice a m c) W) {i : Nat} (hi : i < m) : ∃ g, a = some ⟨g, 0, none⟩ ∧ g < W.heap.size ∧ w.heap.size ≤ g ∧ W.cell? ⟨g, i * 3, none⟩ = some (.int .i64 (Tb.plc n (i : Int)).1) ∧ W.cell? ⟨g, i * 3 + 1, none⟩ = some (.int .i64 (Tb.plc n (i : Int)).2.1) ∧ W.cell? ⟨g, i * 3 + 2, none⟩ = some (.int .i64 (Tb.plc n (i : Int)).2.2) := by
  have hlt := h.1.lt
  rcases h.1.2 with ⟨h1, h0⟩ | ⟨g, cap, cur, e, hb, hg, hcap, _, hcs, ht⟩
  · omega
  · simp only [Value.slice.injEq] at e
    obtain ⟨rfl, -, rfl⟩ := e
    have key : ∀ j (hj : j < 3), W.cell? ⟨g, i * 3 + j, none⟩ = (cs3 (Tb.plc n (i : Int)))[j]? := fun j hj => by
      rw [← rows3_at n m hi hj, ← ht, List.getElem?_take, if_pos (by omega)]
      simp [World.cell?, hg]
    exact ⟨g, rfl, (hlt g rfl).2, hb, key 0 (by omega), key 1 (by omega), key 2 (by omega)⟩
theorem Tb.plc_tot {n : Nat} {c : Int} (h : c < 0 ∨ (Tb.tot n : Int) ≤ c) : Tb.plc n c = (0, 0, 0) := by
  refine Tb.plc_none ?_
  unfold Tb.tot at h
  split at h
  · exact .inl ‹_›
  · omega
/-- A place lies in block b. -/
def PlAt (w : World) (b : Nat) (p : Int × Int × Int) : Prop := w.heap[b]? = some (.cells #[.int .i64 p.1, .int .i64 p.2.1, .int .i64 p.2.2] 29 (0, 0))
theorem PlAt.cells {w : World} {b : Nat} {p : Int × Int × Int} (h : PlAt w b p) : w.cell? ⟨b, 0, none⟩ = some (.int .i64 p.1) ∧ w.cell? ⟨b, 1, none⟩ = some (.int .i64 p.2.1) ∧ w.cell? ⟨b, 2, none⟩ = some (.int .i64 p.2.2) := by
  unfold PlAt at h
  refine ⟨?_, ?_, ?_⟩ <;> simp [World.cell?, h]
theorem PlAt.frozen {w : World} {b : Nat} {p : Int × Int × Int} (h : PlAt w b p) (o : Nat) : w.frozen? ⟨b, o, none⟩ = false := by
  unfold PlAt at h
  simp [World.frozen?, h]
theorem heap_setI {w : World} {p i : Nat} {cur : Array Value} {t : TypeId} (h : w.heap[p]? = some (.cells cur t (0, 0))) (u : Value) : (w.setCell ⟨p, i, none⟩ u).heap[p]? = some (.cells (cur.setIfInBounds i u) t (0, 0)) := by
  obtain ⟨hlt, hk⟩ := Array.getElem?_eq_some_iff.1 h
  show (w.heap.modify p _)[p]? = _
  rw [Array.getElem?_eq_getElem (by rw [Array.size_modify]; exact hlt), Array.getElem_modify_self, hk]
  rfl
/-- A place stored into a box. -/
def put3 (W : World) (b : Nat) (p : Int × Int × Int) : World := ((W.setCell ⟨b, 0, none⟩ (.int .i64 p.1)).setCell ⟨b, 1, none⟩ (.int .i64 p.2.1)).setCell ⟨b, 2, none⟩ (.int .i64 p.2.2)
theorem PlAt.put {w : World} {b : Nat} {p : Int × Int × Int} (h : PlAt w b p) (q : Int × Int × Int) : PlAt (put3 w b q) b q := heap_setI (heap_setI (heap_setI h _) _) _
theorem put3_below {w w' : World} {B b : Nat} (h : Below B w w') (hb : B ≤ b) (p : Int × Int × Int) : Below B w (put3 w' b p) := ((h.setCell (p := ⟨b, 0, none⟩) hb _).setCell (p := ⟨b, 1, none⟩) hb _).setCell (p := ⟨b, 2, none⟩) hb _
/-- The box of a zero place. -/
abbrev zbox (w : World) : World := w.alloc (.cells #[.int .i64 0, .int .i64 0, .int .i64 0] 29)
theorem zbox_at (w : World) : PlAt (zbox w) w.heap.size (0, 0, 0) := heap_alloc_new w _
set_option maxRecDepth 100000 in
set_option maxHeartbeats 2000000 in
/-- The document's Where. -/
theorem rwhere_any (log c : Int) (w : World) (h0 : -9223372036854775808 ≤ c) (h1 : c ≤ 9223372036854775807) : Calls Try.prog 6 #[.int .i64 log, .int .i64 c] w (Gives (pv (Tb.plc (Tb.grp log) c)) w) := by
  have A := Lib.hid (all_any log (zbox w))
  have hn := Tb.grp_le log
  have hz : Hid (Below w.heap.size w (zbox w)) := Lib.hid ((Below.refl _ w).alloc (Nat.le_refl _) _)
  have hs : (zbox w).heap.size = w.heap.size + 1 := by simp
  have Hs := Lib.hid hs; clear hs
  have Z := Lib.hid (zbox_at w)
  generalize Tb.grp log = n at *
  have ht : Tb.tot n ≤ 5000 := by unfold Tb.tot; split <;> omega
  have HT := Lib.hid (fun (h : c < 0 ∨ (Tb.tot n : Int) ≤ c) => Tb.plc_tot h)
  generalize Tb.tot n = m at *
  by_cases a : c < 0 ∨ (m : Int) ≤ c
  · rw [HT.out a]
    rcases a with a | a
    all_goals
      go_enter Try.func6, Try.ntmps6
      go_wp2_with fail
      with_reducible refine A.out.mono ?_
      rintro e W ⟨v, rfl, HV⟩
      obtain ⟨va, vc, rfl⟩ := HV.slice
      have hp : PlAt W w.heap.size (0, 0, 0) := (HV.2.block w.heap.size (by rw [Hs.out]; omega)).trans Z.out
      have HP := Lib.hid hp; clear hp
      have HB : Hid (Below w.heap.size w W) := Lib.hid (hz.out.trans (HV.2.mono (by rw [Hs.out]; omega)))
      clear HV
      obtain ⟨c0, c1, c2⟩ := HP.out.cells
      have fz := HP.out.frozen
      go_wp2
      clear c0 c1 c2 fz
      show bodyPost _ _ _ _ _ (put3 W w.heap.size (0, 0, 0))
      have HBe := Lib.hid (put3_below HB.out (b := w.heap.size) (by omega) (0, 0, 0))
      have HRe := Lib.hid (HP.out.put (0, 0, 0))
      generalize put3 W w.heap.size (0, 0, 0) = we at HBe HRe ⊢
      obtain ⟨g0, g1, g2⟩ := HRe.out.cells
      exact bodyPost_ret (v := pv (0, 0, 0)) (by simp [results, Try.results6, go_sem, g0, g1, g2, pv]) rfl ⟨rfl, HBe.out⟩
  · have a0 : ¬ c < 0 := by omega
    have a1 : ¬ (m : Int) ≤ c := by omega
    obtain ⟨i, rfl⟩ := Int.eq_ofNat_of_zero_le (show 0 ≤ c by omega)
    clear a HT
    have hi : i < m := by omega
    go_enter Try.func6, Try.ntmps6
    go_wp2_with fail
    with_reducible refine A.out.mono ?_
    rintro e W ⟨v, rfl, HV⟩
    obtain ⟨va, vc, rfl⟩ := HV.slice
    have hp : PlAt W w.heap.size (0, 0, 0) := (HV.2.block w.heap.size (by rw [Hs.out]; omega)).trans Z.out
    have HP := Lib.hid hp; clear hp
    have HB : Hid (Below w.heap.size w W) := Lib.hid (hz.out.trans (HV.2.mono (by rw [Hs.out]; omega)))
    obtain ⟨g, rfl, hg, hwg, d0, d1, d2⟩ := HV.at hi
    have hgb : w.heap.size ≠ g := by have := Hs.out; omega
    clear HV
    generalize Tb.plc n (i : Int) = q at *
    obtain ⟨c0, c1, c2⟩ := HP.out.cells
    have fz := HP.out.frozen
    go_wp2
    clear c0 c1 c2 fz d0 d1 d2
    show bodyPost _ _ _ _ _ (put3 W w.heap.size q)
    have HBe := Lib.hid (put3_below HB.out (b := w.heap.size) (by omega) q)
    have HRe := Lib.hid (HP.out.put q)
    generalize put3 W w.heap.size q = we at HBe HRe ⊢
    obtain ⟨g0, g1, g2⟩ := HRe.out.cells
    exact bodyPost_ret (v := pv q) (by simp [results, Try.results6, go_sem, g0, g1, g2, pv]) rfl ⟨rfl, HBe.out⟩
/-- May a table be. -/
def Tb.right (d : Int) (n : Nat) : Bool := (d != 0) && decide (0 < n)
/-- A table's box. -/
abbrev boxed (w : World) (d l : Int) : World := w.alloc (.cells #[.int .u64 d, .int .i64 l] 24)
theorem boxed_below (w : World) (d l : Int) : Below w.heap.size w (boxed w d l) := (Below.refl _ _).alloc (Nat.le_refl _) _
theorem boxed_cells {w w' : World} {d l : Int} (h : Below (boxed w d l).heap.size (boxed w d l) w') : w'.cell? ⟨w.heap.size, 0, none⟩ = some (.int .u64 d) ∧ w'.cell? ⟨w.heap.size, 1, none⟩ = some (.int .i64 l) := by
  have hs : w.heap.size < (boxed w d l).heap.size := by simp
  refine ⟨?_, ?_⟩ <;> rw [h.cell hs, World.cell?_alloc_new] <;> rfl
set_option maxRecDepth 100000 in
set_option maxHeartbeats 2000000 in
/-- table.Right. -/
theorem right_any (d l : Int) (w : World) : Calls Try.prog 7 #[.agg #[.int .u64 d, .int .i64 l]] w (Gives (.bool (Tb.right d (Tb.grp l))) w) := by
  have HB := Lib.hid (boxed_below w d l)
  have G := Lib.hid (fun w => groups_any l w)
  unfold Tb.right
  generalize Tb.grp l = n at *
  cases hd : (d != 0) with
  | false =>
    go_enter Try.func7, Try.ntmps7
    go_wp2
    go_ret
    exact ⟨rfl, HB.out⟩
  | true =>
    go_enter Try.func7, Try.ntmps7
    go_wp2_with fail
    with_reducible refine (G.out _).mono ?_
    rintro e w1 ⟨rfl, rfl⟩
    go_wp2
    go_ret
    exact ⟨by simp, HB.out⟩
set_option maxRecDepth 100000 in
set_option maxHeartbeats 2000000 in
/-- The document's Right. -/
theorem rright_any (d l : Int) (w : World) (h0 : 0 ≤ d) : Calls Try.prog 8 #[.agg #[.int .u64 d, .int .i64 l]] w (Gives (.bool (Tb.right d (Tb.grp l))) w) := by
  have HB := Lib.hid (boxed_below w d l)
  have G := Lib.hid (fun w => rgroups_any l w)
  unfold Tb.right
  generalize Tb.grp l = n at *
  have e : (d != 0) = decide (0 < d) := by
    rw [Bool.eq_iff_iff]; simp; omega
  rw [e]
  clear e
  by_cases a : 0 < d
  · go_enter Try.func8, Try.ntmps8
    go_wp2_with fail
    with_reducible refine (G.out _).mono ?_
    rintro e w1 ⟨rfl, rfl⟩
    go_wp2
    go_ret
    exact ⟨by simp [a], HB.out⟩
  · go_enter Try.func8, Try.ntmps8
    go_wp2
    go_ret
    exact ⟨by simp; intro h; omega, HB.out⟩
/-- It returns b, and what was there lies as it lay. -/
def Says (b : Bool) (w : World) (e : Ending) (w' : World) : Prop := e = .returned (.bool b) ∧ Below w.heap.size w w'
theorem aw1 (w : World) : Calls Try.prog 9 #[.int .i64 0] w (Same (.int .i64 16) w) := size_any 0 w
theorem aw2 (w : World) : Calls Try.prog 15 #[.int .i64 0, .int .i64 0] w (Gives (.int .i64 7) w) := group_any 0 0 w (by omega) (by omega)
theorem aw3 (w : World) : Calls Try.prog 17 #[.int .i64 0, .int .i64 0, .int .i64 7] w (Gives (.int .i64 15) w) := slot_any 0 0 7 w (by omega) (by omega) (by omega) (by omega)
theorem aw4 (w : World) : Calls Try.prog 5 #[.int .i64 0, .int .i64 15] w (Gives (.agg #[.int .i64 3, .int .i64 0, .int .i64 7]) w) := where_any 0 15 w (by omega) (by omega)
theorem aw5 (w : World) : Calls Try.prog 13 #[.int .i64 (-1)] w (Same (.int .i64 6) w) := stripe_any (-1) w
theorem aw6 (w : World) : Calls Try.prog 11 #[.int .i64 1] w (Same (.int .i64 14) w) := limit_any 1 w
theorem aw7 (w : World) : Calls Try.prog 7 #[.agg #[.int .u64 1, .int .i64 0]] w (Gives (.bool true) w) := right_any 1 0 w
theorem aw8 (w : World) : Calls Try.prog 7 #[.agg #[.int .u64 1, .int .i64 10]] w (Gives (.bool false) w) := right_any 1 10 w
theorem aw9 (w : World) : Calls Try.prog 9 #[.int .i64 (-1)] w (Same (.int .i64 0) w) := size_any (-1) w
set_option maxRecDepth 100000 in
set_option maxHeartbeats 1000000 in
/-- The probe: the fixed answers are given. -/
theorem awake_any (w : World) : Calls Try.prog 19 #[] w (Says true w) := by
  have H1 := Lib.hid (fun w => aw1 w)
  have H2 := Lib.hid (fun w => aw2 w)
  have H3 := Lib.hid (fun w => aw3 w)
  have H4 := Lib.hid (fun w => aw4 w)
  have H5 := Lib.hid (fun w => aw5 w)
  have H6 := Lib.hid (fun w => aw6 w)
  have H7 := Lib.hid (fun w => aw7 w)
  have H8 := Lib.hid (fun w => aw8 w)
  have H9 := Lib.hid (fun w => aw9 w)
  have EQ : ∀ w : World, (binOp .eql 27 (.agg #[.int .i64 3, .int .i64 0, .int .i64 7]) (.agg #[.int .i64 3, .int .i64 0, .int .i64 7])).run Try.prog w = .ok (.bool true) w := fun w => by
    have := eq_place 3 0 7 3 0 7 w; simpa using this
  go_enter Try.func19, Try.ntmps19
  go_wp2_with fail
  with_reducible refine (H1.out _).mono ?_
  rintro e w1 ⟨rfl, rfl⟩
  go_wp2_with fail
  with_reducible refine (H2.out _).mono ?_
  rintro e w2 ⟨rfl, b2⟩
  go_wp2_with fail
  with_reducible refine (H3.out _).mono ?_
  rintro e w3 ⟨rfl, b3⟩
  have b3 := below_then b2 b3
  go_wp2_with fail
  with_reducible refine (H4.out _).mono ?_
  rintro e w4 ⟨rfl, b4⟩
  have b4 := below_then b3 b4
  go_wp2_with fail
  with_reducible refine (H5.out _).mono ?_
  rintro e w5 ⟨rfl, rfl⟩
  go_wp2_with fail
  with_reducible refine (H6.out _).mono ?_
  rintro e w5 ⟨rfl, rfl⟩
  go_wp2_with fail
  with_reducible refine (H7.out _).mono ?_
  rintro e w7 ⟨rfl, b7⟩
  have b7 := below_then b4 b7
  go_wp2_with fail
  with_reducible refine (H8.out _).mono ?_
  rintro e w8 ⟨rfl, b8⟩
  have b8 := below_then b7 b8
  go_wp2_with fail
  with_reducible refine (H9.out _).mono ?_
  rintro e w9 ⟨rfl, rfl⟩
  go_wp2
  go_ret
  exact ⟨rfl, b8⟩
end Go.Proofs.Ythfofninfjcdhaa
