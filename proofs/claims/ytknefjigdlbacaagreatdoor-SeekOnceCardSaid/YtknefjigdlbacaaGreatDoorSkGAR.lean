/-
  Several texts in one: The walks of a reader's add, pair, Take and Result; A reader behind so many answers: its Act, Take and Result; The walk of a reader's Take. By an AI agent.
-/
import Derived.Test.YtknefjigdlbacaaGreatDoorSkGAQ
import Derived.Test.YtknefjigdlbacaaGreatDoorSkGAC
set_option linter.unusedSimpArgs false
set_option linter.unusedVariables false
namespace Go.Proofs.YtknefjigdlbacaaGreatDoor
open Go.RowKit Go.Maps
open Ac (A)
/-- What a reader's own blocks are. -/
def Rf (q : Nat) (v : Value) (k : Nat) : Prop := k = q ∨ v.ownBlock = some k
theorem own_ne {w : World} {base : Nat} {e t : TypeId} {size : Nat} {v : Value} {n : Nat} {xs : List Value} (h : w.ownsRow base e size v n xs) {k : Nat} {c : Array Value} {z : Nat × Nat} (hk : w.heap[k]? = some (.cells c t z)) (hte : t ≠ e) : v.ownBlock ≠ some k := by
  intro e1
  rcases h.2 with ⟨rfl, _⟩ | ⟨g, cap, cur, rfl, _, hg, _⟩
  · cases e1
  · cases e1
    rw [hk] at hg
    simp only [Option.some.injEq, Obj.cells.injEq] at hg
    exact hte hg.2.1
theorem grown_set (W : World) (b i : Nat) (v : Value) : W.grownBy (W.setCell ⟨b, i, none⟩ v) (some b) :=
  ⟨rfl, rfl, rfl, by simp [World.setCell], fun k _ hk => Below.heap_setCell _ _ _ k (fun e => hk (by rw [e]))⟩
theorem row_set {W : World} {B n : Nat} {v : Value} {xs : List Value} (h : W.ownsRow B 22 1 v n xs) {q : Nat} (hq : v.ownBlock ≠ some q) (i : Nat) (u : Value) : (W.setCell ⟨q, i, none⟩ u).ownsRow B 22 1 v n xs :=
  h.kept (grown_set W q i u) (.inr hq)
theorem Rb.row_ne {w : World} {q n c : Nat} {x : A} {ad : Option Addr} (h : Rb w q x ad n c) {B m : Nat} {v : Value} {xs : List Value} (hr : w.ownsRow B 22 1 v m xs) : v.ownBlock ≠ some q := own_ne hr h (by decide)
/-- A row's slice. -/
theorem row_slice {w : World} {B n : Nat} {v : Value} {xs : List Value} (h : w.ownsRow B 22 1 v (n + 1) xs) : ∃ g c, v = .slice (some ⟨g, 0, none⟩) (n + 1) c := by
  rcases h.2 with ⟨_, h0⟩ | ⟨g, cap, cur, e, _⟩
  · omega
  · exact ⟨g, cap, e⟩
/-- One word more. -/
def Added (B q n : Nat) (x : A) (xs : List Int) (v : Nat) (F : Nat → Prop) (w : World) (e : Ending) (w' : World) : Prop :=
  e = .returned (.tuple #[]) ∧ ∃ g c', Rb w' q x (some ⟨g, 0, none⟩) (n + 1) c' ∧ w'.ownsRow B 22 1 (.slice (some ⟨g, 0, none⟩) (n + 1) c') (n + 1) (us (xs ++ [(v : Int)])) ∧ Tn F (Rf q (.slice (some ⟨g, 0, none⟩) (n + 1) c')) w w'
set_option maxRecDepth 100000 in
set_option maxHeartbeats 4000000 in
theorem add_any (w : World) (B q n c v : Nat) (x : A) (ad : Option Addr) (xs : List Int) (h : Rb w q x ad n c) (hr : w.ownsRow B 22 1 (.slice ad n c) n (us xs)) (hB : B ≤ w.heap.size) (hn : n ≤ 1000) :
    Calls Tryz.prog 94 #[.pointer (some ⟨q, 5, none⟩), .int .u64 (v : Int)] w (Added B q n x xs v (Rf q (.slice ad n c)) w) := by
  obtain ⟨i0, hi, hz0, hz1, hz2⟩ := info_parts info_u64
  have Hz0 := Lib.hid hz0; clear hz0
  have Hz1 := Lib.hid hz1; clear hz1
  have Hz2 := Lib.hid hz2; clear hz2
  have Hi := Lib.hid hi; clear hi
  have c5 := h.c5
  have HR := Lib.hid h; clear h
  obtain ⟨W, hW⟩ : ∃ W, W = w.alloc (.cells #[.int .u64 (v : Int)] 22) := ⟨_, rfl⟩
  have hbW : Below w.heap.size w W := by rw [hW]; exact (Below.refl _ w).alloc (Nat.le_refl _) _
  have HBW := Lib.hid hbW
  have HRW := Lib.hid (HR.out.below hbW)
  have HOW := Lib.hid (show W.ownsRow B 22 1 (.slice ad n c) n (us xs) by rw [hW]; exact hr.alloc _)
  have HCW := Lib.hid (show ∀ j u, [Value.int .u64 (v : Int)][j]? = some u → W.cell? ((⟨w.heap.size, 0, none⟩ : Addr).add j) = some u by rw [hW]; exact cell_one_new _ _ _)
  have HSW := Lib.hid (show B ≤ W.heap.size from Nat.le_trans hB hbW.size)
  clear hbW hr
  go_enter Tryz.func94, Tryz.ntmps94
  go_wp2_with (at_builtin; rw [← hW]; clear hW; refine wpList_append_own_at _ rfl _ _ 29 rfl B 22 i0 (.int .u64 0) 1 8 Tryz.underlying29 Hi.out Hz0.out Hz1.out Hz2.out rfl (by decide) _ _ _ rfl HOW.out ⟨_, 0, none⟩ 1 1 [.int .u64 (v : Int)] rfl rfl ?c1 ?c2 ?c3 ?c4 ?c5 ?_)
  case c1 => exact HCW.out
  case c2 => simp [Value.oneCell']
  case c3 => unfold maxLen; omega
  case c4 => omega
  case c5 => exact HSW.out
  intro v' w1 hown' hgrow _ hat
  obtain ⟨g, c', rfl⟩ := row_slice hown'
  have hR1 : Rb w1 q x ad n c := HRW.out.keep (hgrow.block q HRW.out.lt (fun e => HRW.out.row_ne HOW.out e.symm))
  have f5 := hR1.fz 5
  have d5 := hR1.c5
  have HR1 := Lib.hid hR1
  have HO := Lib.hid hown'
  have HT := Lib.hid (show Tn (Rf q (.slice ad n c)) (Rf q (.slice (some ⟨g, 0, none⟩) (n + 1) c')) w (w1.setCell ⟨q, 5, none⟩ (.slice (some ⟨g, 0, none⟩) (n + 1) c')) by
    refine ⟨hgrow.os.trans HBW.out.os, hgrow.tape.trans HBW.out.tape, hgrow.output.trans HBW.out.output, ?_, fun k hk hF => ?_, fun k hk => ?_⟩
    · have := Nat.le_trans HBW.out.size hgrow.size
      simpa [World.setCell] using this
    · have hkW : k < W.heap.size := Nat.lt_of_lt_of_le hk HBW.out.size
      exact (Below.heap_setCell _ _ _ _ (fun e => hF (.inl e))).trans ((hgrow.block k hkW (fun e => hF (.inr e.symm))).trans (HBW.out.block k hk))
    · rcases hk with rfl | hk
      · exact .inl (.inl rfl)
      · rcases hat with e | e
        · exact .inl (.inr (e.symm.trans hk))
        · rw [e] at hk
          injection hk with hk
          exact .inr (by have := HBW.out.size; omega))
  clear hown' hgrow hat hR1
  go_wp2
  go_end0
  refine ⟨rfl, g, c', HR1.out.held _ _ _, ?_, HT.out⟩
  have := row_set HO.out (HR1.out.row_ne HO.out) 5 (.slice (some ⟨g, 0, none⟩) (n + 1) c')
  unfold us at this ⊢
  rw [List.map_append]
  exact this
/-- Two texts, as a pair. -/
abbrev pr (a b : List UInt8) : Value := .agg #[.string ⟨a.toArray⟩, .string ⟨b.toArray⟩]
set_option maxRecDepth 100000 in
set_option maxHeartbeats 4000000 in
theorem pair_any (w : World) (q c : Nat) (x : A) (ad : Option Addr) (l : List Int) (h : Rb w q x ad l.length c) (hl : l.length ≤ 1000000) (hx : ∀ x ∈ l, 0 ≤ x ∧ x ≤ 18446744073709551615) (hs : Sl .u64 w w.heap.size ad l) :
    Calls Tryz.prog 133 #[.pointer (some ⟨q, 5, none⟩)] w (Gives (pr (Bx.key l) (Bx.val l)) w) := by
  have hb : ∀ o, Below w.heap.size w (w.alloc o) := fun o => (Below.refl _ w).alloc (Nat.le_refl _) _
  have c5 := fun o => (h.below (hb o)).c5
  have KR := fun o => read_any l ad c (w.alloc o) hl hx ((hs.below (hb o)).mono (hb o).size)
  generalize Bx.key l = a at *
  generalize Bx.val l = b at *
  have HK := Lib.hid KR; clear KR
  have HB := Lib.hid hb; clear hb
  clear h hs hx
  go_enter Tryz.func133, Tryz.ntmps133
  go_wp2_with fail
  obtain ⟨W, hW⟩ : ∃ W, W = w.alloc (.cells #[.string ⟨#[]⟩, .string ⟨#[]⟩] 135) := ⟨_, rfl⟩
  have hwn : W.heap[w.heap.size]? = some (.cells #[.string ⟨#[]⟩, .string ⟨#[]⟩] 135 (0, 0)) := by rw [hW]; exact heap_alloc_new w _
  have hbW : Below w.heap.size w W := by rw [hW]; exact HB.out _
  have KW := Lib.hid (HK.out (.cells #[.string ⟨#[]⟩, .string ⟨#[]⟩] 135))
  rw [← hW] at KW ⊢
  clear hW HK HB
  with_reducible refine KW.out.mono ?_
  rintro e w1 ⟨rfl, hb1⟩
  have h1 := (hb1.block _ (Array.getElem?_eq_some_iff.1 hwn).1).trans hwn
  have HB1 := Lib.hid (hbW.trans (hb1.mono hbW.size))
  clear hwn hb1 hbW KW
  obtain ⟨z, hz⟩ : ∃ z, z = w.heap.size := ⟨_, rfl⟩
  have d0 : w1.cell? ⟨w.heap.size, 0, none⟩ = some (.string ⟨#[]⟩) := by simp [World.cell?, h1]
  have d1 : w1.cell? ⟨w.heap.size, 1, none⟩ = some (.string ⟨#[]⟩) := by simp [World.cell?, h1]
  have f0 : w1.frozen? ⟨w.heap.size, 0, none⟩ = false := by simp [World.frozen?, h1]
  have f1 : w1.frozen? ⟨w.heap.size, 1, none⟩ = false := by simp [World.frozen?, h1]
  have e0 : ((w1.setCell ⟨w.heap.size, 0, none⟩ (.string ⟨a.toArray⟩)).setCell ⟨w.heap.size, 1, none⟩ (.string ⟨b.toArray⟩)).heap[w.heap.size]? = some (.cells #[.string ⟨a.toArray⟩, .string ⟨b.toArray⟩] 135 (0, 0)) := by
    rw [heap_setc (heap_setc h1 _ _) _ _]; simp
  have HE := Lib.hid e0; clear e0
  have HZ := Lib.hid hz
  rw [← hz] at d0 d1 f0 f1 HE ⊢
  clear h1 hz
  go_wp2
  have g0 := HE.out
  refine bodyPost_ret (v := pr a b) ?_ rfl ⟨rfl, ?_⟩
  · simp [results, Tryz.results133, go_sem, World.cell?, g0]
  · have hb := HB1.out
    have := HZ.out
    exact (hb.setCell (p := ⟨z, 0, none⟩) (by simp only; omega) _).setCell (p := ⟨z, 1, none⟩) (by simp only; omega) _
end Go.Proofs.YtknefjigdlbacaaGreatDoor
set_option linter.unusedSimpArgs false
set_option linter.unusedVariables false
namespace Go.Proofs.YtknefjigdlbacaaGreatDoor
open Go.RowKit Go.Maps
open Ac (A)
/-- A reader of the block b, behind the first j of the answers gs. -/
structure Rst (B : Nat) (w : World) (q b : Nat) (gs : List Nat) (j : Nat) (ad : Option Addr) (c : Nat) : Prop where
  qB : B ≤ q
  own : Rb w q (Rd.act b gs j) ad (Rd.nr gs j) c
  row : w.ownsRow B 22 1 (.slice ad (Rd.nr gs j) c) (Rd.nr gs j) (us (Rd.rd gs j))
  le : j ≤ gs.length
/-- Its own blocks. -/
abbrev Rst.F (q : Nat) (gs : List Nat) (j : Nat) (ad : Option Addr) (c : Nat) : Nat → Prop := Rf q (.slice ad (Rd.nr gs j) c)
section
variable {B : Nat} {w w' : World} {q b j c : Nat} {gs : List Nat} {ad : Option Addr}
theorem Rst.foot (h : Rst B w q b gs j ad c) {k : Nat} (hk : Rst.F q gs j ad c k) : B ≤ k ∧ k < w.heap.size := by
  rcases hk with rfl | hk
  · exact ⟨h.qB, h.own.lt⟩
  · exact h.row.lt k hk
theorem Rst.keep (h : Rst B w q b gs j ad c) (hk : ∀ k, Rst.F q gs j ad c k → w'.heap[k]? = w.heap[k]?) : Rst B w' q b gs j ad c := by
  refine ⟨h.qB, h.own.keep (hk q (.inl rfl)), ⟨h.row.1, ?_⟩, h.le⟩
  rcases h.row.2 with h0 | ⟨g, cap, cur, h1, h2, h3, h4⟩
  · exact .inl h0
  · exact .inr ⟨g, cap, cur, h1, h2, (hk g (.inr (by rw [h1]; rfl))).trans h3, h4⟩
theorem Rst.below (h : Rst B w q b gs j ad c) (hb : Below w.heap.size w w') : Rst B w' q b gs j ad c := h.keep fun k hk => hb.block k (h.foot hk).2
theorem isz_ract : isz (Rd.act b gs j) = !decide (j < Rd.sz gs) := by
  by_cases h : j < Rd.sz gs
  · rw [Rd.act_yes h, decide_eq_true h]; simp [isz, eqB]
  · rw [Rd.act_no h, decide_eq_false h]; rfl
/-- Act: the next act, and whether one comes. -/
theorem rdact_any (h : Rst B w q b gs j ad c) : Calls Tryz.prog 34 #[.pointer (some ⟨q, 0, none⟩)] w (Gives (.tuple #[av (Rd.act b gs j), .bool (decide (j < Rd.sz gs))]) w) := by
  have := ract_any w q _ c _ _ h.own
  rwa [isz_ract, Bool.not_not] at this
theorem whole_row {n y g : Nat} {x : A} {xs : List Int} (h : Rb w q x (some ⟨g, 0, none⟩) n c) (hr : w.ownsRow B 22 1 (.slice (some ⟨g, 0, none⟩) n c) n (us xs)) (hn : 0 < n) (hn2 : n ≤ 1000000) (hx : xs[0]? = some (y : Int)) (hy : y < 18446744073709551616) :
    Calls Tryz.prog 95 #[.pointer (some ⟨q, 5, none⟩)] w (Gives (.bool ((n : Int) == Bx.size (y : Int))) w) := by
  refine whole_some w q n c g y x h hn hn2 ?_ hy
  rw [hr.cellAt 0 (by omega)]
  unfold us
  rw [List.getElem?_map, hx]
  rfl
theorem whole_st (h : Rst B w q b gs j ad c) (hw : ∀ x ∈ gs, x < 18446744073709551616) : Calls Tryz.prog 95 #[.pointer (some ⟨q, 5, none⟩)] w (Gives (.bool (!decide (j < Rd.sz gs))) w) := by
  have hs := Rd.sz_bd gs
  by_cases h0 : j = 0
  · subst h0
    have ho := h.own
    rw [Rd.nr_zero] at ho
    rw [decide_eq_true (by omega)]
    exact whole_none w q c _ ad ho
  · have hn : 0 < Rd.nr gs j := by unfold Rd.nr; omega
    obtain ⟨n, hnn⟩ : ∃ n, Rd.nr gs j = n + 1 := ⟨Rd.nr gs j - 1, by omega⟩
    have ho := h.own
    have hr := h.row
    have hh := Rd.rd_head (gs := gs) (j := j) (by omega) h.le
    have e : (((n + 1 : Nat) : Int) == Bx.size ((gs.getD 0 0 : Nat) : Int)) = !decide (j < Rd.sz gs) := by
      rw [← Rd.sz_int, ← hnn]
      by_cases hj : j < Rd.sz gs
      · rw [decide_eq_true hj, Rd.nr_yes hj]; simp; omega
      · rw [decide_eq_false hj, Rd.nr_no hj]; simp
    rw [hnn] at ho hr
    obtain ⟨g, c', e1⟩ := row_slice hr
    injection e1 with e1 _ e2
    subst e1 e2
    rw [← e]
    exact whole_row ho hr (by omega) (by have := Rd.nr_le gs j; omega) hh (Rd.wf_getD hw 0)
end
/-- Result. -/
def rres (gs : List Nat) (j : Nat) : Value := if j < Rd.sz gs then .tuple #[pr [] [], .bool false] else .tuple #[pr (Rd.key gs) (Rd.val gs), .bool true]
set_option maxRecDepth 100000 in
set_option maxHeartbeats 4000000 in
theorem rres_nil (w : World) : Calls Tryz.prog 96 #[.pointer none] w (Gives (.tuple #[pr [] [], .bool false]) w) := by
  have hb : ∀ o, Below w.heap.size w (w.alloc o) := fun o => (Below.refl _ w).alloc (Nat.le_refl _) _
  have HB := Lib.hid hb; clear hb
  go_enter Tryz.func96, Tryz.ntmps96
  go_wp2
  exact bodyPost_ret (v := .tuple #[pr [] [], .bool false]) (by simp [results, Tryz.results96, go_sem]) rfl ⟨rfl, HB.out _⟩
set_option maxRecDepth 100000 in
set_option maxHeartbeats 4000000 in
theorem rres_any {B : Nat} {w : World} {q b j c : Nat} {gs : List Nat} {ad : Option Addr} (h : Rst B w q b gs j ad c) (hw : ∀ x ∈ gs, x < 18446744073709551616) :
    Calls Tryz.prog 96 #[.pointer (some ⟨q, 0, none⟩)] w (Gives (rres gs j) w) := by
  obtain ⟨W, hW⟩ : ∃ W, W = w.alloc (.cells #[.string ⟨#[]⟩, .string ⟨#[]⟩] 135) := ⟨_, rfl⟩
  have hwn : W.heap[w.heap.size]? = some (.cells #[.string ⟨#[]⟩, .string ⟨#[]⟩] 135 (0, 0)) := by rw [hW]; exact heap_alloc_new w _
  have hbW : Below w.heap.size w W := by rw [hW]; exact (Below.refl _ w).alloc (Nat.le_refl _) _
  have hS := h.below hbW
  have KW := whole_st hS hw
  have HWN := Lib.hid hwn; clear hwn
  have HBW := Lib.hid hbW; clear hbW
  have HS := Lib.hid hS
  have HW := Lib.hid hw
  unfold rres
  by_cases hj : j < Rd.sz gs
  · rw [if_pos hj]
    rw [decide_eq_true hj] at KW
    have KW := Lib.hid KW
    clear h hS hw hj
    go_enter Tryz.func96, Tryz.ntmps96
    go_wp2_with fail
    rw [← hW]
    clear hW
    with_reducible refine KW.out.mono ?_
    rintro e w1 ⟨rfl, hb1⟩
    have h1 := (hb1.block _ (Array.getElem?_eq_some_iff.1 HWN.out).1).trans HWN.out
    have HB1 := Lib.hid (HBW.out.trans (hb1.mono HBW.out.size))
    obtain ⟨z, hz⟩ : ∃ z, z = w.heap.size := ⟨_, rfl⟩
    have d0 : w1.cell? ⟨w.heap.size, 0, none⟩ = some (.string ⟨#[]⟩) := by simp [World.cell?, h1]
    have d1 : w1.cell? ⟨w.heap.size, 1, none⟩ = some (.string ⟨#[]⟩) := by simp [World.cell?, h1]
    have f0 : w1.frozen? ⟨w.heap.size, 0, none⟩ = false := by simp [World.frozen?, h1]
    have f1 : w1.frozen? ⟨w.heap.size, 1, none⟩ = false := by simp [World.frozen?, h1]
    have e0 : ((w1.setCell ⟨w.heap.size, 0, none⟩ (.string ⟨#[]⟩)).setCell ⟨w.heap.size, 1, none⟩ (.string ⟨#[]⟩)).heap[w.heap.size]? = some (.cells #[.string ⟨#[]⟩, .string ⟨#[]⟩] 135 (0, 0)) := by
      rw [heap_setc (heap_setc h1 _ _) _ _]; simp
    have HE := Lib.hid e0; clear e0
    have HZ := Lib.hid hz
    rw [← hz] at d0 d1 f0 f1 HE ⊢
    clear h1 hz hb1 KW HWN HBW
    go_wp2
    have g0 := HE.out
    refine bodyPost_ret (v := .tuple #[pr [] [], .bool false]) ?_ rfl ⟨rfl, ?_⟩
    · simp [results, Tryz.results96, go_sem, World.cell?, g0]
    · have hb := HB1.out
      have := HZ.out
      exact (hb.setCell (p := ⟨z, 0, none⟩) (by simp only; omega) _).setCell (p := ⟨z, 1, none⟩) (by simp only; omega) _
  · rw [if_neg hj]
    rw [decide_eq_false hj] at KW
    have KW := Lib.hid KW
    have KP : ∀ w1, Below W.heap.size W w1 → Calls Tryz.prog 133 #[.pointer (some ⟨q, 5, none⟩)] w1 (Gives (pr (Rd.key gs) (Rd.val gs)) w1) := fun w1 hb1 => by
      have hs1 := hS.below hb1
      have hl := Rd.rd_len hs1.le
      have ho := hs1.own
      have hr := hs1.row
      rw [← hl] at ho hr
      have := pair_any w1 q c _ ad (Rd.rd gs j) ho (by rw [hl]; have := Rd.nr_le gs j; omega) (Rd.rd_wf hw) (Sl.of_own hr)
      rwa [Rd.rd_end hj] at this
    have HP := Lib.hid KP; clear KP
    clear h hS hw hj
    generalize Rd.key gs = a at *
    generalize Rd.val gs = b2 at *
    go_enter Tryz.func96, Tryz.ntmps96
    go_wp2_with fail
    rw [← hW]
    clear hW
    with_reducible refine KW.out.mono ?_
    rintro e w1 ⟨rfl, hb1⟩
    have KQ := Lib.hid (HP.out w1 hb1)
    go_wp2_with fail
    with_reducible refine KQ.out.mono ?_
    rintro e w2 ⟨rfl, hb2⟩
    have hb3 := hb1.trans (hb2.mono hb1.size)
    have h1 := (hb3.block _ (Array.getElem?_eq_some_iff.1 HWN.out).1).trans HWN.out
    have HB1 := Lib.hid (HBW.out.trans (hb3.mono HBW.out.size))
    obtain ⟨z, hz⟩ : ∃ z, z = w.heap.size := ⟨_, rfl⟩
    have d0 : w2.cell? ⟨w.heap.size, 0, none⟩ = some (.string ⟨#[]⟩) := by simp [World.cell?, h1]
    have d1 : w2.cell? ⟨w.heap.size, 1, none⟩ = some (.string ⟨#[]⟩) := by simp [World.cell?, h1]
    have f0 : w2.frozen? ⟨w.heap.size, 0, none⟩ = false := by simp [World.frozen?, h1]
    have f1 : w2.frozen? ⟨w.heap.size, 1, none⟩ = false := by simp [World.frozen?, h1]
    have e0 : ((w2.setCell ⟨w.heap.size, 0, none⟩ (.string ⟨a.toArray⟩)).setCell ⟨w.heap.size, 1, none⟩ (.string ⟨b2.toArray⟩)).heap[w.heap.size]? = some (.cells #[.string ⟨a.toArray⟩, .string ⟨b2.toArray⟩] 135 (0, 0)) := by
      rw [heap_setc (heap_setc h1 _ _) _ _]; simp
    have HE := Lib.hid e0; clear e0
    have HZ := Lib.hid hz
    rw [← hz] at d0 d1 f0 f1 HE ⊢
    clear h1 hz hb1 hb2 hb3 KW HWN HBW KQ HP
    go_wp2
    have g0 := HE.out
    refine bodyPost_ret (v := .tuple #[pr a b2, .bool true]) ?_ rfl ⟨rfl, ?_⟩
    · simp [results, Tryz.results96, go_sem, World.cell?, g0]
    · have hb := HB1.out
      have := HZ.out
      exact (hb.setCell (p := ⟨z, 0, none⟩) (by simp only; omega) _).setCell (p := ⟨z, 1, none⟩) (by simp only; omega) _
end Go.Proofs.YtknefjigdlbacaaGreatDoor
set_option linter.unusedSimpArgs false
set_option linter.unusedVariables false
namespace Go.Proofs.YtknefjigdlbacaaGreatDoor
open Go.RowKit Go.Maps
open Ac (A)
theorem rtake_nil (v : Nat) (w : World) : Calls Tryz.prog 40 #[.pointer none, .int .u64 (v : Int)] w (Gives (.tuple #[]) w) := by
  have K := Lib.hid ract_nil
  go_enter Tryz.func40, Tryz.ntmps40
  go_wp2_with fail
  with_reducible refine (K.out _).mono ?_
  rintro e w1 ⟨rfl, hb⟩
  have HB := Lib.hid hb; clear hb
  go_wp2
  go_end0
  exact ⟨rfl, HB.out.trans (((Below.refl _ w1).alloc (Nat.le_refl _) _).mono HB.out.size)⟩
set_option maxRecDepth 100000 in
set_option maxHeartbeats 4000000 in
theorem rtake_none (w : World) (q n c v : Nat) (ad : Option Addr) (h : Rb w q ⟨0, 0, 0, 0, 0⟩ ad n c) : Calls Tryz.prog 40 #[.pointer (some ⟨q, 0, none⟩), .int .u64 (v : Int)] w (Gives (.tuple #[]) w) := by
  have K := Lib.hid (ract_any w q n c _ ad h)
  clear h
  go_enter Tryz.func40, Tryz.ntmps40
  go_wp2_with fail
  with_reducible refine K.out.mono ?_
  rintro e w1 ⟨rfl, hb⟩
  have HB := Lib.hid hb; clear hb
  rw [show (!isz ⟨0, 0, 0, 0, 0⟩) = false from rfl]
  go_wp2
  go_end0
  exact ⟨rfl, HB.out.trans (((Below.refl _ w1).alloc (Nat.le_refl _) _).mono HB.out.size)⟩
/-- The act behind an answer more. -/
def nx (t : Bool) (b j : Nat) : A := if t then ⟨0, 0, 0, 0, 0⟩ else ⟨1, b, ((j + 1 : Nat) : Int), 0, 0⟩
/-- What Take leaves. -/
def Tk (B q n : Nat) (x : A) (xs : List Int) (F : Nat → Prop) (w : World) (e : Ending) (w' : World) : Prop :=
  e = .returned (.tuple #[]) ∧ ∃ g c', Rb w' q x (some ⟨g, 0, none⟩) n c' ∧ w'.ownsRow B 22 1 (.slice (some ⟨g, 0, none⟩) n c') n (us xs) ∧ Tn F (Rf q (.slice (some ⟨g, 0, none⟩) n c')) w w'
theorem Tn.set {F F' : Nat → Prop} {w w' : World} (h : Tn F F' w w') {q : Nat} (hq : F q) (i : Nat) (v : Value) : Tn F F' w (w'.setCell ⟨q, i, none⟩ v) :=
  ⟨h.os, h.tape, h.output, by have := h.size; simpa [World.setCell] using this, fun k hk hF => (Below.heap_setCell _ _ _ _ (fun e => hF (by have e' : k = q := e; rw [e']; exact hq))).trans (h.block k hk hF), h.foot⟩
set_option maxRecDepth 100000 in
set_option maxHeartbeats 4000000 in
theorem rtake_go (w : World) (B q b j c v y : Nat) (ad : Option Addr) (xs : List Int) (t : Bool) (h : Rb w q ⟨1, b, (j : Int), 0, 0⟩ ad j c) (hr : w.ownsRow B 22 1 (.slice ad j c) j (us xs)) (hqB : B ≤ q) (hB : B ≤ w.heap.size) (hj : j ≤ 1000)
    (hy : (xs ++ [(v : Int)])[0]? = some (y : Int)) (hy2 : y < 18446744073709551616) (ht : (((j + 1 : Nat) : Int) == Bx.size (y : Int)) = t) :
    Calls Tryz.prog 40 #[.pointer (some ⟨q, 0, none⟩), .int .u64 (v : Int)] w (Tk B q (j + 1) (nx t b j) (xs ++ [(v : Int)]) (Rf q (.slice ad j c)) w) := by
  have K := Lib.hid (ract_any w q j c _ ad h)
  have KA : ∀ W, Below w.heap.size w W → Calls Tryz.prog 94 #[.pointer (some ⟨q, 5, none⟩), .int .u64 (v : Int)] W (Added B q j ⟨1, b, (j : Int), 0, 0⟩ xs v (Rf q (.slice ad j c)) W) := fun W hb => add_any W B q j c v _ ad xs (h.below hb) (own_below hr hb) (Nat.le_trans hB hb.size) hj
  have KW : ∀ (W : World) (x : A) (g c' : Nat), Rb W q x (some ⟨g, 0, none⟩) (j + 1) c' → W.ownsRow B 22 1 (.slice (some ⟨g, 0, none⟩) (j + 1) c') (j + 1) (us (xs ++ [(v : Int)])) → Calls Tryz.prog 95 #[.pointer (some ⟨q, 5, none⟩)] W (Gives (.bool t) W) := fun W x g c' h1 h2 => by
    have := whole_row h1 h2 (by omega) (by omega) hy hy2
    rwa [ht] at this
  have HA := Lib.hid KA; clear KA
  have HWH := Lib.hid KW; clear KW
  obtain ⟨l, hl⟩ : ∃ l, l = xs ++ [(v : Int)] := ⟨_, rfl⟩
  unfold Added at HA
  rw [← hl] at HA HWH ⊢
  clear h hr hy ht hl hqB hB
  go_enter Tryz.func40, Tryz.ntmps40
  go_wp2_with fail
  with_reducible refine K.out.mono ?_
  rintro e w1 ⟨rfl, hb⟩
  rw [show (!isz ⟨1, b, (j : Int), 0, 0⟩) = true by simp [isz, eqB]]
  obtain ⟨W, hW⟩ : ∃ W, W = w1.alloc (.cells #[.int .i64 1, .int .u64 (b : Int), .int .i64 (j : Int), .int .u64 0, .int .u64 0] 35) := ⟨_, rfl⟩
  have hb1 : Below w.heap.size w W := by rw [hW]; exact hb.trans (((Below.refl _ _).alloc (Nat.le_refl _) _).mono hb.size)
  have KA := Lib.hid (HA.out W hb1)
  have HB := Lib.hid hb1
  clear hb hb1 HA
  go_wp2_with fail
  rw [← hW]
  clear hW
  with_reducible refine KA.out.mono ?_
  rintro e w2 ⟨rfl, g, c', h2, hr2, tn2⟩
  have hne := h2.row_ne hr2
  have HT := Lib.hid (((Tn.of_below HB.out).trans tn2).set (q := q) (.inl rfl) 2 (.int .i64 ((j : Int) + 1)))
  have H3 := Lib.hid (h2.celled ((j : Int) + 1))
  have HR3 := Lib.hid (row_set hr2 hne 2 (.int .i64 ((j : Int) + 1)))
  have KH := Lib.hid (HWH.out _ _ _ _ H3.out HR3.out)
  have HNE := Lib.hid hne
  have d2 : w2.cell? ⟨q, 2, none⟩ = some (.int .i64 (j : Int)) := h2.c2
  have f2 := h2.fz 2
  clear h2 hr2 tn2 hne KA HWH
  have ej : wrap64 ((j : Int) + 1) = (j : Int) + 1 := by unfold wrap64; omega
  go_wp2_with fail
  with_reducible refine KH.out.mono ?_
  rintro e w4 ⟨rfl, hb4⟩
  have H4 := Lib.hid (H3.out.below hb4)
  have HR4 := Lib.hid (own_below HR3.out hb4)
  have HT4 := Lib.hid (HT.out.trans (Tn.of_below hb4))
  clear hb4 HT H3 HR3 KH
  cases t
  · go_wp2
    go_end0
    refine ⟨rfl, g, c', ?_, HR4.out, HT4.out⟩
    have := H4.out
    simpa [nx] using this
  · have c0 := H4.out.c0
    have c1 := H4.out.c1
    have c2 := H4.out.c2
    have c3 := H4.out.c3
    have c4 := H4.out.c4
    have f0 := H4.out.fz 0
    have f1 := H4.out.fz 1
    have f2 := H4.out.fz 2
    have f3 := H4.out.fz 3
    have f4 := H4.out.fz 4
    go_wp2
    go_end0
    refine ⟨rfl, g, c', H4.out.acted ⟨0, 0, 0, 0, 0⟩, ?_, ?_⟩
    · exact row_set (row_set (row_set (row_set (row_set HR4.out HNE.out 0 _) HNE.out 1 _) HNE.out 2 _) HNE.out 3 _) HNE.out 4 _
    · exact ((((HT4.out.set (.inl rfl) 0 _).set (.inl rfl) 1 _).set (.inl rfl) 2 _).set (.inl rfl) 3 _).set (.inl rfl) 4 _
/-- Take: one answer more. -/
theorem rtake_any {B : Nat} {w : World} {q b j c : Nat} {gs : List Nat} {ad : Option Addr} (h : Rst B w q b gs j ad c) (hw : ∀ x ∈ gs, x < 18446744073709551616) (hj : j < gs.length) (hB : B ≤ w.heap.size) :
    Calls Tryz.prog 40 #[.pointer (some ⟨q, 0, none⟩), .int .u64 ((gs.getD j 0 : Nat) : Int)] w fun e w' => e = .returned (.tuple #[]) ∧ ∃ ad' c', Rst B w' q b gs (j + 1) ad' c' ∧ Tn (Rst.F q gs j ad c) (Rst.F q gs (j + 1) ad' c') w w' := by
  by_cases hs : j < Rd.sz gs
  · have ho := h.own
    have hr := h.row
    rw [Rd.act_yes hs, Rd.nr_yes hs] at ho
    rw [Rd.nr_yes hs] at hr
    have hx := Rd.rd_next hs hj
    have hh := Rd.rd_head (gs := gs) (j := j + 1) (by omega) (by omega)
    rw [hx] at hh
    have ht : (((j + 1 : Nat) : Int) == Bx.size ((gs.getD 0 0 : Nat) : Int)) = !decide (j + 1 < Rd.sz gs) := by
      rw [← Rd.sz_int]
      by_cases hk : j + 1 < Rd.sz gs
      · rw [decide_eq_true hk]; simp; omega
      · rw [decide_eq_false hk]; simp; omega
    refine (rtake_go w B q b j c _ _ ad _ _ ho hr h.qB hB (by have := Rd.sz_bd gs; omega) hh (Rd.wf_getD hw 0) ht).mono ?_
    rintro e w' ⟨rfl, g, c', h1, h2, h3⟩
    refine ⟨rfl, some ⟨g, 0, none⟩, c', ⟨h.qB, ?_, ?_, by omega⟩, ?_⟩
    · rw [Rd.nr_next hs]
      by_cases hk : j + 1 < Rd.sz gs
      · rw [Rd.act_yes hk]
        rw [decide_eq_true hk] at h1
        exact h1
      · rw [Rd.act_no hk]
        rw [decide_eq_false hk] at h1
        exact h1
    · rw [Rd.nr_next hs, hx]; exact h2
    · unfold Rst.F
      rw [Rd.nr_yes hs, Rd.nr_next hs]
      exact h3
  · have ho := h.own
    rw [Rd.act_no hs] at ho
    refine (rtake_none w q _ c _ ad ho).mono ?_
    rintro e w' ⟨rfl, hb⟩
    have h1 := h.below hb
    have e1 : Rd.nr gs (j + 1) = Rd.nr gs j := by rw [Rd.nr_no hs, Rd.nr_no (by omega)]
    refine ⟨rfl, ad, c, ⟨h1.qB, ?_, ?_, by omega⟩, ?_⟩
    · rw [e1, Rd.act_no (by omega), ← Rd.act_no hs]; exact h1.own
    · rw [e1, Rd.rd_no hs]; exact h1.row
    · unfold Rst.F
      rw [e1]
      exact Tn.of_below hb
end Go.Proofs.YtknefjigdlbacaaGreatDoor
