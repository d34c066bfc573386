/-
  The walks of a reader's add, pair, Take and Result. By an AI agent.
-/
import Derived.Test.YtmpoaepkfjeecaaRdBase
import Derived.Test.YtmpoaepkfjeecaaRdMath
set_option linter.unusedSimpArgs false
set_option linter.unusedVariables false
namespace Go.Proofs.Ytmpoaepkfjeecaa
open Go.RowKit Go.Maps
open Ac (A)
/-- What a reader's own blocks are. -/
def Rf (q : Nat) (v : Value) (k : Nat) : Prop := k = q ∨ v.ownBlock = some k
theorem own_ne {w : World} {base : Nat} {e t : TypeId} {size : Nat} {v : Value} {n : Nat} {xs : List Value} (h : w.ownsRow base e size v n xs) {k : Nat} {c : Array Value} {z : Nat × Nat} (hk : w.heap[k]? = some (.cells c t z)) (hte : t ≠ e) : v.ownBlock ≠ some k := by
  intro e1
  rcases h.2 with ⟨rfl, _⟩ | ⟨g, cap, cur, rfl, _, hg, _⟩
  · cases e1
  · cases e1
    rw [hk] at hg
    simp only [Option.some.injEq, Obj.cells.injEq] at hg
    exact hte hg.2.1
theorem grown_set (W : World) (b i : Nat) (v : Value) : W.grownBy (W.setCell ⟨b, i, none⟩ v) (some b) :=
  ⟨rfl, rfl, rfl, by simp [World.setCell], fun k _ hk => Below.heap_setCell _ _ _ k (fun e => hk (by rw [e]))⟩
theorem row_set {W : World} {B n : Nat} {v : Value} {xs : List Value} (h : W.ownsRow B 22 1 v n xs) {q : Nat} (hq : v.ownBlock ≠ some q) (i : Nat) (u : Value) : (W.setCell ⟨q, i, none⟩ u).ownsRow B 22 1 v n xs :=
  h.kept (grown_set W q i u) (.inr hq)
theorem Rb.row_ne {w : World} {q n c : Nat} {x : A} {ad : Option Addr} (h : Rb w q x ad n c) {B m : Nat} {v : Value} {xs : List Value} (hr : w.ownsRow B 22 1 v m xs) : v.ownBlock ≠ some q := own_ne hr h (by decide)
/-- A row's slice. -/
theorem row_slice {w : World} {B n : Nat} {v : Value} {xs : List Value} (h : w.ownsRow B 22 1 v (n + 1) xs) : ∃ g c, v = .slice (some ⟨g, 0, none⟩) (n + 1) c := by
  rcases h.2 with ⟨_, h0⟩ | ⟨g, cap, cur, e, _⟩
  · omega
  · exact ⟨g, cap, e⟩
/-- One word more. -/
def Added (B q n : Nat) (x : A) (xs : List Int) (v : Nat) (F : Nat → Prop) (w : World) (e : Ending) (w' : World) : Prop :=
  e = .returned (.tuple #[]) ∧ ∃ g c', Rb w' q x (some ⟨g, 0, none⟩) (n + 1) c' ∧ w'.ownsRow B 22 1 (.slice (some ⟨g, 0, none⟩) (n + 1) c') (n + 1) (us (xs ++ [(v : Int)])) ∧ Tn F (Rf q (.slice (some ⟨g, 0, none⟩) (n + 1) c')) w w'
set_option maxRecDepth 100000 in
set_option maxHeartbeats 4000000 in
theorem add_any (w : World) (B q n c v : Nat) (x : A) (ad : Option Addr) (xs : List Int) (h : Rb w q x ad n c) (hr : w.ownsRow B 22 1 (.slice ad n c) n (us xs)) (hB : B ≤ w.heap.size) (hn : n ≤ 1000) :
    Calls Try.prog 22 #[.pointer (some ⟨q, 5, none⟩), .int .u64 (v : Int)] w (Added B q n x xs v (Rf q (.slice ad n c)) w) := by
  obtain ⟨i0, hi, hz0, hz1, hz2⟩ := info_parts info_u64
  have Hz0 := Lib.hid hz0; clear hz0
  have Hz1 := Lib.hid hz1; clear hz1
  have Hz2 := Lib.hid hz2; clear hz2
  have Hi := Lib.hid hi; clear hi
  have c5 := h.c5
  have HR := Lib.hid h; clear h
  obtain ⟨W, hW⟩ : ∃ W, W = w.alloc (.cells #[.int .u64 (v : Int)] 22) := ⟨_, rfl⟩
  have hbW : Below w.heap.size w W := by rw [hW]; exact (Below.refl _ w).alloc (Nat.le_refl _) _
  have HBW := Lib.hid hbW
  have HRW := Lib.hid (HR.out.below hbW)
  have HOW := Lib.hid (show W.ownsRow B 22 1 (.slice ad n c) n (us xs) by rw [hW]; exact hr.alloc _)
  have HCW := Lib.hid (show ∀ j u, [Value.int .u64 (v : Int)][j]? = some u → W.cell? ((⟨w.heap.size, 0, none⟩ : Addr).add j) = some u by rw [hW]; exact cell_one_new _ _ _)
  have HSW := Lib.hid (show B ≤ W.heap.size from Nat.le_trans hB hbW.size)
  clear hbW hr
  go_enter Try.func22, Try.ntmps22
  go_wp2_with (at_builtin; rw [← hW]; clear hW; refine wpList_append_own_at _ rfl _ _ 23 rfl B 22 i0 (.int .u64 0) 1 8 Try.underlying23 Hi.out Hz0.out Hz1.out Hz2.out rfl (by decide) _ _ _ rfl HOW.out ⟨_, 0, none⟩ 1 1 [.int .u64 (v : Int)] rfl rfl ?c1 ?c2 ?c3 ?c4 ?c5 ?_)
  case c1 => exact HCW.out
  case c2 => simp [Value.oneCell']
  case c3 => unfold maxLen; omega
  case c4 => omega
  case c5 => exact HSW.out
  intro v' w1 hown' hgrow _ hat
  obtain ⟨g, c', rfl⟩ := row_slice hown'
  have hR1 : Rb w1 q x ad n c := HRW.out.keep (hgrow.block q HRW.out.lt (fun e => HRW.out.row_ne HOW.out e.symm))
  have f5 := hR1.fz 5
  have d5 := hR1.c5
  have HR1 := Lib.hid hR1
  have HO := Lib.hid hown'
  have HT := Lib.hid (show Tn (Rf q (.slice ad n c)) (Rf q (.slice (some ⟨g, 0, none⟩) (n + 1) c')) w (w1.setCell ⟨q, 5, none⟩ (.slice (some ⟨g, 0, none⟩) (n + 1) c')) by
    refine ⟨hgrow.os.trans HBW.out.os, hgrow.tape.trans HBW.out.tape, hgrow.output.trans HBW.out.output, ?_, fun k hk hF => ?_, fun k hk => ?_⟩
    · have := Nat.le_trans HBW.out.size hgrow.size
      simpa [World.setCell] using this
    · have hkW : k < W.heap.size := Nat.lt_of_lt_of_le hk HBW.out.size
      exact (Below.heap_setCell _ _ _ _ (fun e => hF (.inl e))).trans ((hgrow.block k hkW (fun e => hF (.inr e.symm))).trans (HBW.out.block k hk))
    · rcases hk with rfl | hk
      · exact .inl (.inl rfl)
      · rcases hat with e | e
        · exact .inl (.inr (e.symm.trans hk))
        · rw [e] at hk
          injection hk with hk
          exact .inr (by have := HBW.out.size; omega))
  clear hown' hgrow hat hR1
  go_wp2
  go_end0
  refine ⟨rfl, g, c', HR1.out.held _ _ _, ?_, HT.out⟩
  have := row_set HO.out (HR1.out.row_ne HO.out) 5 (.slice (some ⟨g, 0, none⟩) (n + 1) c')
  unfold us at this ⊢
  rw [List.map_append]
  exact this
/-- Two texts, as a pair. -/
abbrev pr (a b : List UInt8) : Value := .agg #[.string ⟨a.toArray⟩, .string ⟨b.toArray⟩]
set_option maxRecDepth 100000 in
set_option maxHeartbeats 4000000 in
theorem pair_any (w : World) (q c : Nat) (x : A) (ad : Option Addr) (l : List Int) (h : Rb w q x ad l.length c) (hl : l.length ≤ 1000000) (hx : ∀ x ∈ l, 0 ≤ x ∧ x ≤ 18446744073709551615) (hs : Sl .u64 w w.heap.size ad l) :
    Calls Try.prog 21 #[.pointer (some ⟨q, 5, none⟩)] w (Gives (pr (Bx.key l) (Bx.val l)) w) := by
  have hb : ∀ o, Below w.heap.size w (w.alloc o) := fun o => (Below.refl _ w).alloc (Nat.le_refl _) _
  have c5 := fun o => (h.below (hb o)).c5
  have KR := fun o => read_any l ad c (w.alloc o) hl hx ((hs.below (hb o)).mono (hb o).size)
  generalize Bx.key l = a at *
  generalize Bx.val l = b at *
  have HK := Lib.hid KR; clear KR
  have HB := Lib.hid hb; clear hb
  clear h hs hx
  go_enter Try.func21, Try.ntmps21
  go_wp2_with fail
  obtain ⟨W, hW⟩ : ∃ W, W = w.alloc (.cells #[.string ⟨#[]⟩, .string ⟨#[]⟩] 33) := ⟨_, rfl⟩
  have hwn : W.heap[w.heap.size]? = some (.cells #[.string ⟨#[]⟩, .string ⟨#[]⟩] 33 (0, 0)) := by rw [hW]; exact heap_alloc_new w _
  have hbW : Below w.heap.size w W := by rw [hW]; exact HB.out _
  have KW := Lib.hid (HK.out (.cells #[.string ⟨#[]⟩, .string ⟨#[]⟩] 33))
  rw [← hW] at KW ⊢
  clear hW HK HB
  with_reducible refine KW.out.mono ?_
  rintro e w1 ⟨rfl, hb1⟩
  have h1 := (hb1.block _ (Array.getElem?_eq_some_iff.1 hwn).1).trans hwn
  have HB1 := Lib.hid (hbW.trans (hb1.mono hbW.size))
  clear hwn hb1 hbW KW
  obtain ⟨z, hz⟩ : ∃ z, z = w.heap.size := ⟨_, rfl⟩
  have d0 : w1.cell? ⟨w.heap.size, 0, none⟩ = some (.string ⟨#[]⟩) := by simp [World.cell?, h1]
  have d1 : w1.cell? ⟨w.heap.size, 1, none⟩ = some (.string ⟨#[]⟩) := by simp [World.cell?, h1]
  have f0 : w1.frozen? ⟨w.heap.size, 0, none⟩ = false := by simp [World.frozen?, h1]
  have f1 : w1.frozen? ⟨w.heap.size, 1, none⟩ = false := by simp [World.frozen?, h1]
  have e0 : ((w1.setCell ⟨w.heap.size, 0, none⟩ (.string ⟨a.toArray⟩)).setCell ⟨w.heap.size, 1, none⟩ (.string ⟨b.toArray⟩)).heap[w.heap.size]? = some (.cells #[.string ⟨a.toArray⟩, .string ⟨b.toArray⟩] 33 (0, 0)) := by
    rw [heap_setc (heap_setc h1 _ _) _ _]; simp
  have HE := Lib.hid e0; clear e0
  have HZ := Lib.hid hz
  rw [← hz] at d0 d1 f0 f1 HE ⊢
  clear h1 hz
  go_wp2
  have g0 := HE.out
  refine bodyPost_ret (v := pr a b) ?_ rfl ⟨rfl, ?_⟩
  · simp [results, Try.results21, go_sem, World.cell?, g0]
  · have hb := HB1.out
    have := HZ.out
    exact (hb.setCell (p := ⟨z, 0, none⟩) (by simp only; omega) _).setCell (p := ⟨z, 1, none⟩) (by simp only; omega) _
end Go.Proofs.Ytmpoaepkfjeecaa
