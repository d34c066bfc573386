/-
  The walk of Take: what was answered is kept. By an AI agent.
-/
import Derived.Test.YthldjdkjgiebaaaDriveRow
set_option linter.unusedSimpArgs false
set_option linter.unusedVariables false
namespace Go.Proofs.Ythldjdkjgiebaaa
open Go.RowKit Go.Maps
open Mm (Mem Blk)
open Ac (A)
theorem own_b (au : Option Addr) (n c : Nat) : (Value.slice au n c).ownBlock = (Value.slice au 0 0).ownBlock := by cases au <;> rfl
section
variable {B : Nat} {w w1 w' : World} {q : Nat} {a : Option Addr} {N c : Nat} {gs : List Int} {au : Option Addr} {cu : Nat}
theorem Rw.lt (h : Rw B w q a N c gs au cu) : q < w.heap.size := (Array.getElem?_eq_some_iff.1 h.own).1
theorem Rw.c0 (h : Rw B w q a N c gs au cu) : w.cell? ⟨q, 0, none⟩ = some (.slice a N c) := by simp [World.cell?, h.own]
theorem Rw.c1 (h : Rw B w q a N c gs au cu) : w.cell? ⟨q, 1, none⟩ = some (.slice au gs.length cu) := by simp [World.cell?, h.own]
theorem Rw.f1 (h : Rw B w q a N c gs au cu) : w.frozen? ⟨q, 1, none⟩ = false := by simp [World.frozen?, h.own]
theorem Rw.foot (h : Rw B w q a N c gs au cu) {k : Nat} (hk : Hp q au k) : B ≤ k ∧ k < w.heap.size := by
  rcases hk with rfl | hk
  · exact ⟨h.qB, h.lt⟩
  · exact h.row.lt k ((own_b _ _ _).trans hk)
theorem Rw.keep (h : Rw B w q a N c gs au cu) (hk : ∀ k, Hp q au k → w'.heap[k]? = w.heap[k]?) : Rw B w' q a N c gs au cu := by
  refine ⟨h.qB, (hk q (.inl rfl)).trans h.own, h.row.1, ?_⟩
  rcases h.row.2 with hn | ⟨g, cap, cur, e, hb, hgg, rest⟩
  · exact .inl hn
  · refine .inr ⟨g, cap, cur, e, hb, (hk g (.inr ?_)).trans hgg, rest⟩
    injection e with e1 e2 e3
    rw [e1]; rfl
theorem Rw.below (h : Rw B w q a N c gs au cu) (hb : Below w.heap.size w w') : Rw B w' q a N c gs au cu := h.keep fun k hk => hb.block k (h.foot hk).2
/-- The routine's own block is not that of its answers. -/
theorem Rw.apart (h : Rw B w q a N c gs au cu) : (Value.slice au gs.length cu).ownBlock ≠ some q := by
  intro e
  rcases h.row.2 with ⟨e1, _⟩ | ⟨g, cap, cur, e1, _, hg, _⟩
  · rw [e1] at e; cases e
  · rw [e1] at e
    have : g = q := by injection e
    subst this
    have := hg.symm.trans h.own
    simp at this
theorem Rw.obj (h : Rw B w q a N c gs au cu) {k : Nat} (hk : Hp q au k) : ∃ cs t, w.heap[k]? = some (.cells cs t (0, 0)) := by
  rcases hk with rfl | hk
  · exact ⟨_, _, h.own⟩
  · obtain ⟨cs, t, e⟩ := own_block' h.row k ((own_b _ _ _).trans hk)
    exact ⟨cs, t, e⟩
theorem Tn.drew' {F F' : Nat → Prop} (h : Tn F F' w.drew w') : Tn F F' w w' := (Tn.of_below (Below.refl _ _).drew).trans h
/-- Behind the append and the store. -/
theorem Rw.took (h : Rw B w q a N c gs au cu) (hB : B ≤ w.heap.size) (v : Int) {o : Obj} {v' : Value} (hown : w1.ownsRow B 35 1 v' (gs.length + 1) (ws gs ++ [.int .u64 v])) (hg : (w.alloc o).grownBy w1 (Value.slice au gs.length cu).ownBlock)
    (hat : v'.ownBlock = (Value.slice au gs.length cu).ownBlock ∨ v'.ownBlock = some (w.alloc o).heap.size) :
    w1.cell? ⟨q, 1, none⟩ = some (.slice au gs.length cu) ∧ w1.frozen? ⟨q, 1, none⟩ = false ∧ ∃ au' cu', Rw B (w1.setCell ⟨q, 1, none⟩ v') q a N c (gs ++ [v]) au' cu' ∧ Tn (Hp q au) (Hp q au') w (w1.setCell ⟨q, 1, none⟩ v') := by
  have hq1 : w1.heap[q]? = w.heap[q]? := (hg.block q (by have := h.lt; simp; omega) (fun e => h.apart e.symm)).trans (Below.heap_alloc _ _ _ h.lt)
  have ho1 := hq1.trans h.own
  obtain ⟨g, cap, rfl⟩ := ownsRow_succ hown
  have hgq : g ≠ q := by
    rintro rfl
    rcases hown.2 with ⟨e1, _⟩ | ⟨g', cap', cur, e1, _, hg', _⟩
    · cases e1
    · injection e1 with e1 e2 e3
      injection e1 with e1
      injection e1 with e1
      subst e1
      have := hg'.symm.trans ho1
      simp at this
  refine ⟨by simp [World.cell?, ho1], by simp [World.frozen?, ho1], some ⟨g, 0, none⟩, cap, ⟨h.qB, ?_, ?_⟩, ?_⟩
  · rw [heap_setc ho1]; simp
  · have e1 : ws (gs ++ [v]) = ws gs ++ [.int .u64 v] := by simp [ws]
    have e2 : (gs ++ [v]).length = gs.length + 1 := by simp
    rw [e1, e2]
    refine ⟨hown.1, ?_⟩
    rcases hown.2 with ⟨e1, _⟩ | ⟨g', cap', cur, e1, hb, hg', rest⟩
    · cases e1
    · refine .inr ⟨g', cap', cur, e1, hb, ?_, rest⟩
      injection e1 with e1 e2 e3
      injection e1 with e1
      injection e1 with e1
      subst e1
      rw [Below.heap_setCell _ _ _ _ hgq]
      exact hg'
  · refine ⟨hg.os, hg.tape, hg.output, ?_, fun k hk hF => ?_, fun k hk => ?_⟩
    · have := hg.size; simp [World.setCell] at this ⊢; omega
    · rw [Below.heap_setCell _ _ _ _ (fun e => hF (.inl e)), hg.block k (by simp; omega) (fun e => hF (.inr ((own_b _ _ _).symm.trans e.symm))), Below.heap_alloc _ _ _ hk]
    · rcases hk with rfl | hk
      · exact .inl (.inl rfl)
      · have hk' : g = k := by injection hk
        subst hk'
        rcases hat with e | e
        · exact .inl (.inr (by rw [← own_b au gs.length cu, ← e]; rfl))
        · have : g = (w.alloc o).heap.size := by injection e
          exact .inr (by rw [this]; simp)
end
set_option maxRecDepth 100000 in
set_option maxHeartbeats 4000000 in
theorem rtake_more {B : Nat} {w : World} {q : Nat} {a : Option Addr} {N c : Nat} {gs : List Int} {au : Option Addr} {cu : Nat} (h : Rw B w q a N c gs au cu) (hB : B ≤ w.heap.size) (hm : gs.length < N) (hl : gs.length ≤ 1000000) (v : Int) :
    Calls Try.prog 93 #[.pointer (some ⟨q, 0, none⟩), .int .u64 v] w fun e w' => e = .returned (.tuple #[]) ∧ ∃ au' cu', Rw B w' q a N c (gs ++ [v]) au' cu' ∧ Tn (Hp q au) (Hp q au') w w' := by
  obtain ⟨i0, hi, hz0, hz1, hz2⟩ := info_parts info_u64
  have Hz0 := Lib.hid hz0; clear hz0
  have Hz1 := Lib.hid hz1; clear hz1
  have Hz2 := Lib.hid hz2; clear hz2
  have Hi := Lib.hid hi; clear hi
  have c0 := h.c0
  have c1 := h.c1
  have hd : decide ((gs.length : Int) < (N : Int)) = true := by simp; omega
  have H := Lib.hid (h.below (Below.refl _ w).drew); clear h
  obtain ⟨m, hmm⟩ : ∃ m, m = gs.length := ⟨_, rfl⟩
  rw [← hmm] at c1 hd
  have R : Hid (w.drew.ownsRow B 35 1 (.slice au m cu) m (ws gs)) := Lib.hid (by rw [hmm]; exact H.out.row)
  have hl' : m ≤ 1000000 := by omega
  have hm' : m < N := by omega
  have Hmm := Lib.hid hmm; clear hmm
  go_enter Try.func93, Try.ntmps93
  go_wp2_with fail
  go_region
  all_goals go_wp2_with (at_builtin; refine wpList_append_own_at _ rfl _ _ 27 rfl B 35 i0 (.int .u64 0) 1 8 Try.underlying27 Hi.out Hz0.out Hz1.out Hz2.out rfl (by decide) _ _ _ rfl (R.out.alloc _) ⟨_, 0, none⟩ 1 1 [.int .u64 v] rfl rfl (cell_one_new _ _ _) (by simp [Value.oneCell']) (by unfold maxLen; omega) (by omega) (by simp; omega) ?_; intro v' w3 hown' hgrow _ hat; obtain ⟨g', cap', rfl⟩ := ownsRow_succ hown'; have hT := H.out.took hB v (w1 := w3) (o := .cells #[.int .u64 v] 35) (by rw [← Hmm.out]; exact hown') (by rw [← Hmm.out]; exact hgrow) (by rw [← Hmm.out]; exact hat); rw [← Hmm.out] at hT; obtain ⟨t1, t2, t3⟩ := hT; have T3 := Lib.hid t3; clear t3 hown' hgrow hat)
  all_goals go_wp2
  all_goals go_end0
  all_goals obtain ⟨au', cu', hR, hT⟩ := T3.out
  all_goals exact ⟨rfl, au', cu', hR, hT.drew'⟩
end Go.Proofs.Ythldjdkjgiebaaa
