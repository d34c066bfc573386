/-
  A reader behind so many answers: its Act, Take and Result. By an AI agent.
-/
import Derived.Test.YtmpoaepkfjeecaaRdTake
set_option linter.unusedSimpArgs false
set_option linter.unusedVariables false
namespace Go.Proofs.Ytmpoaepkfjeecaa
open Go.RowKit Go.Maps
open Ac (A)
/-- A reader of the block b, behind the first j of the answers gs. -/
structure Rst (B : Nat) (w : World) (q b : Nat) (gs : List Nat) (j : Nat) (ad : Option Addr) (c : Nat) : Prop where
  qB : B ≤ q
  own : Rb w q (Rd.act b gs j) ad (Rd.nr gs j) c
  row : w.ownsRow B 22 1 (.slice ad (Rd.nr gs j) c) (Rd.nr gs j) (us (Rd.rd gs j))
  le : j ≤ gs.length
/-- Its own blocks. -/
abbrev Rst.F (q : Nat) (gs : List Nat) (j : Nat) (ad : Option Addr) (c : Nat) : Nat → Prop := Rf q (.slice ad (Rd.nr gs j) c)
section
variable {B : Nat} {w w' : World} {q b j c : Nat} {gs : List Nat} {ad : Option Addr}
theorem Rst.foot (h : Rst B w q b gs j ad c) {k : Nat} (hk : Rst.F q gs j ad c k) : B ≤ k ∧ k < w.heap.size := by
  rcases hk with rfl | hk
  · exact ⟨h.qB, h.own.lt⟩
  · exact h.row.lt k hk
theorem Rst.keep (h : Rst B w q b gs j ad c) (hk : ∀ k, Rst.F q gs j ad c k → w'.heap[k]? = w.heap[k]?) : Rst B w' q b gs j ad c := by
  refine ⟨h.qB, h.own.keep (hk q (.inl rfl)), ⟨h.row.1, ?_⟩, h.le⟩
  rcases h.row.2 with h0 | ⟨g, cap, cur, h1, h2, h3, h4⟩
  · exact .inl h0
  · exact .inr ⟨g, cap, cur, h1, h2, (hk g (.inr (by rw [h1]; rfl))).trans h3, h4⟩
theorem Rst.below (h : Rst B w q b gs j ad c) (hb : Below w.heap.size w w') : Rst B w' q b gs j ad c := h.keep fun k hk => hb.block k (h.foot hk).2
theorem isz_ract : isz (Rd.act b gs j) = !decide (j < Rd.sz gs) := by
  by_cases h : j < Rd.sz gs
  · rw [Rd.act_yes h, decide_eq_true h]; simp [isz, eqB]
  · rw [Rd.act_no h, decide_eq_false h]; rfl
/-- Act: the next act, and whether one comes. -/
theorem rdact_any (h : Rst B w q b gs j ad c) : Calls Try.prog 9 #[.pointer (some ⟨q, 0, none⟩)] w (Gives (.tuple #[av (Rd.act b gs j), .bool (decide (j < Rd.sz gs))]) w) := by
  have := ract_any w q _ c _ _ h.own
  rwa [isz_ract, Bool.not_not] at this
theorem whole_row {n y g : Nat} {x : A} {xs : List Int} (h : Rb w q x (some ⟨g, 0, none⟩) n c) (hr : w.ownsRow B 22 1 (.slice (some ⟨g, 0, none⟩) n c) n (us xs)) (hn : 0 < n) (hn2 : n ≤ 1000000) (hx : xs[0]? = some (y : Int)) (hy : y < 18446744073709551616) :
    Calls Try.prog 20 #[.pointer (some ⟨q, 5, none⟩)] w (Gives (.bool ((n : Int) == Bx.size (y : Int))) w) := by
  refine whole_some w q n c g y x h hn hn2 ?_ hy
  rw [hr.cellAt 0 (by omega)]
  unfold us
  rw [List.getElem?_map, hx]
  rfl
theorem whole_st (h : Rst B w q b gs j ad c) (hw : ∀ x ∈ gs, x < 18446744073709551616) : Calls Try.prog 20 #[.pointer (some ⟨q, 5, none⟩)] w (Gives (.bool (!decide (j < Rd.sz gs))) w) := by
  have hs := Rd.sz_bd gs
  by_cases h0 : j = 0
  · subst h0
    have ho := h.own
    rw [Rd.nr_zero] at ho
    rw [decide_eq_true (by omega)]
    exact whole_none w q c _ ad ho
  · have hn : 0 < Rd.nr gs j := by unfold Rd.nr; omega
    obtain ⟨n, hnn⟩ : ∃ n, Rd.nr gs j = n + 1 := ⟨Rd.nr gs j - 1, by omega⟩
    have ho := h.own
    have hr := h.row
    have hh := Rd.rd_head (gs := gs) (j := j) (by omega) h.le
    have e : (((n + 1 : Nat) : Int) == Bx.size ((gs.getD 0 0 : Nat) : Int)) = !decide (j < Rd.sz gs) := by
      rw [← Rd.sz_int, ← hnn]
      by_cases hj : j < Rd.sz gs
      · rw [decide_eq_true hj, Rd.nr_yes hj]; simp; omega
      · rw [decide_eq_false hj, Rd.nr_no hj]; simp
    rw [hnn] at ho hr
    obtain ⟨g, c', e1⟩ := row_slice hr
    injection e1 with e1 _ e2
    subst e1 e2
    rw [← e]
    exact whole_row ho hr (by omega) (by have := Rd.nr_le gs j; omega) hh (Rd.wf_getD hw 0)
end
/-- Result. -/
def rres (gs : List Nat) (j : Nat) : Value := if j < Rd.sz gs then .tuple #[pr [] [], .bool false] else .tuple #[pr (Rd.key gs) (Rd.val gs), .bool true]
set_option maxRecDepth 100000 in
set_option maxHeartbeats 4000000 in
theorem rres_nil (w : World) : Calls Try.prog 8 #[.pointer none] w (Gives (.tuple #[pr [] [], .bool false]) w) := by
  have hb : ∀ o, Below w.heap.size w (w.alloc o) := fun o => (Below.refl _ w).alloc (Nat.le_refl _) _
  have HB := Lib.hid hb; clear hb
  go_enter Try.func8, Try.ntmps8
  go_wp2
  exact bodyPost_ret (v := .tuple #[pr [] [], .bool false]) (by simp [results, Try.results8, go_sem]) rfl ⟨rfl, HB.out _⟩
set_option maxRecDepth 100000 in
set_option maxHeartbeats 4000000 in
theorem rres_any {B : Nat} {w : World} {q b j c : Nat} {gs : List Nat} {ad : Option Addr} (h : Rst B w q b gs j ad c) (hw : ∀ x ∈ gs, x < 18446744073709551616) :
    Calls Try.prog 8 #[.pointer (some ⟨q, 0, none⟩)] w (Gives (rres gs j) w) := by
  obtain ⟨W, hW⟩ : ∃ W, W = w.alloc (.cells #[.string ⟨#[]⟩, .string ⟨#[]⟩] 33) := ⟨_, rfl⟩
  have hwn : W.heap[w.heap.size]? = some (.cells #[.string ⟨#[]⟩, .string ⟨#[]⟩] 33 (0, 0)) := by rw [hW]; exact heap_alloc_new w _
  have hbW : Below w.heap.size w W := by rw [hW]; exact (Below.refl _ w).alloc (Nat.le_refl _) _
  have hS := h.below hbW
  have KW := whole_st hS hw
  have HWN := Lib.hid hwn; clear hwn
  have HBW := Lib.hid hbW; clear hbW
  have HS := Lib.hid hS
  have HW := Lib.hid hw
  unfold rres
  by_cases hj : j < Rd.sz gs
  · rw [if_pos hj]
    rw [decide_eq_true hj] at KW
    have KW := Lib.hid KW
    clear h hS hw hj
    go_enter Try.func8, Try.ntmps8
    go_wp2_with fail
    rw [← hW]
    clear hW
    with_reducible refine KW.out.mono ?_
    rintro e w1 ⟨rfl, hb1⟩
    have h1 := (hb1.block _ (Array.getElem?_eq_some_iff.1 HWN.out).1).trans HWN.out
    have HB1 := Lib.hid (HBW.out.trans (hb1.mono HBW.out.size))
    obtain ⟨z, hz⟩ : ∃ z, z = w.heap.size := ⟨_, rfl⟩
    have d0 : w1.cell? ⟨w.heap.size, 0, none⟩ = some (.string ⟨#[]⟩) := by simp [World.cell?, h1]
    have d1 : w1.cell? ⟨w.heap.size, 1, none⟩ = some (.string ⟨#[]⟩) := by simp [World.cell?, h1]
    have f0 : w1.frozen? ⟨w.heap.size, 0, none⟩ = false := by simp [World.frozen?, h1]
    have f1 : w1.frozen? ⟨w.heap.size, 1, none⟩ = false := by simp [World.frozen?, h1]
    have e0 : ((w1.setCell ⟨w.heap.size, 0, none⟩ (.string ⟨#[]⟩)).setCell ⟨w.heap.size, 1, none⟩ (.string ⟨#[]⟩)).heap[w.heap.size]? = some (.cells #[.string ⟨#[]⟩, .string ⟨#[]⟩] 33 (0, 0)) := by
      rw [heap_setc (heap_setc h1 _ _) _ _]; simp
    have HE := Lib.hid e0; clear e0
    have HZ := Lib.hid hz
    rw [← hz] at d0 d1 f0 f1 HE ⊢
    clear h1 hz hb1 KW HWN HBW
    go_wp2
    have g0 := HE.out
    refine bodyPost_ret (v := .tuple #[pr [] [], .bool false]) ?_ rfl ⟨rfl, ?_⟩
    · simp [results, Try.results8, go_sem, World.cell?, g0]
    · have hb := HB1.out
      have := HZ.out
      exact (hb.setCell (p := ⟨z, 0, none⟩) (by simp only; omega) _).setCell (p := ⟨z, 1, none⟩) (by simp only; omega) _
  · rw [if_neg hj]
    rw [decide_eq_false hj] at KW
    have KW := Lib.hid KW
    have KP : ∀ w1, Below W.heap.size W w1 → Calls Try.prog 21 #[.pointer (some ⟨q, 5, none⟩)] w1 (Gives (pr (Rd.key gs) (Rd.val gs)) w1) := fun w1 hb1 => by
      have hs1 := hS.below hb1
      have hl := Rd.rd_len hs1.le
      have ho := hs1.own
      have hr := hs1.row
      rw [← hl] at ho hr
      have := pair_any w1 q c _ ad (Rd.rd gs j) ho (by rw [hl]; have := Rd.nr_le gs j; omega) (Rd.rd_wf hw) (Sl.of_own hr)
      rwa [Rd.rd_end hj] at this
    have HP := Lib.hid KP; clear KP
    clear h hS hw hj
    generalize Rd.key gs = a at *
    generalize Rd.val gs = b2 at *
    go_enter Try.func8, Try.ntmps8
    go_wp2_with fail
    rw [← hW]
    clear hW
    with_reducible refine KW.out.mono ?_
    rintro e w1 ⟨rfl, hb1⟩
    have KQ := Lib.hid (HP.out w1 hb1)
    go_wp2_with fail
    with_reducible refine KQ.out.mono ?_
    rintro e w2 ⟨rfl, hb2⟩
    have hb3 := hb1.trans (hb2.mono hb1.size)
    have h1 := (hb3.block _ (Array.getElem?_eq_some_iff.1 HWN.out).1).trans HWN.out
    have HB1 := Lib.hid (HBW.out.trans (hb3.mono HBW.out.size))
    obtain ⟨z, hz⟩ : ∃ z, z = w.heap.size := ⟨_, rfl⟩
    have d0 : w2.cell? ⟨w.heap.size, 0, none⟩ = some (.string ⟨#[]⟩) := by simp [World.cell?, h1]
    have d1 : w2.cell? ⟨w.heap.size, 1, none⟩ = some (.string ⟨#[]⟩) := by simp [World.cell?, h1]
    have f0 : w2.frozen? ⟨w.heap.size, 0, none⟩ = false := by simp [World.frozen?, h1]
    have f1 : w2.frozen? ⟨w.heap.size, 1, none⟩ = false := by simp [World.frozen?, h1]
    have e0 : ((w2.setCell ⟨w.heap.size, 0, none⟩ (.string ⟨a.toArray⟩)).setCell ⟨w.heap.size, 1, none⟩ (.string ⟨b2.toArray⟩)).heap[w.heap.size]? = some (.cells #[.string ⟨a.toArray⟩, .string ⟨b2.toArray⟩] 33 (0, 0)) := by
      rw [heap_setc (heap_setc h1 _ _) _ _]; simp
    have HE := Lib.hid e0; clear e0
    have HZ := Lib.hid hz
    rw [← hz] at d0 d1 f0 f1 HE ⊢
    clear h1 hz hb1 hb2 hb3 KW HWN HBW KQ HP
    go_wp2
    have g0 := HE.out
    refine bodyPost_ret (v := .tuple #[pr a b2, .bool true]) ?_ rfl ⟨rfl, ?_⟩
    · simp [results, Try.results8, go_sem, World.cell?, g0]
    · have hb := HB1.out
      have := HZ.out
      exact (hb.setCell (p := ⟨z, 0, none⟩) (by simp only; omega) _).setCell (p := ⟨z, 1, none⟩) (by simp only; omega) _
end Go.Proofs.Ytmpoaepkfjeecaa
