/-
  Several texts in one: What SeekActs' walk wants: two founds of the document compared, May, the document's Seek on a new tape; The walk of SeekActs where it asks nothing. By an AI agent.
-/
import Derived.Test.YtknefjigdlbacaaGreatDoorSkAwake
import Derived.Test.YtknefjigdlbacaaGreatDoorSkRefL
import Derived.Test.YtknefjigdlbacaaGreatDoorSkRefY
set_option linter.unusedSimpArgs false
set_option linter.unusedVariables false
namespace Go.Proofs.YtknefjigdlbacaaGreatDoor
open Go.RowKit Go.Maps
open Ac (A)
set_option maxRecDepth 100000 in
set_option maxHeartbeats 1000000 in
theorem eq_fr (a0 a1 a2 b0 b1 b2 : Int) (a b : ByteArray) : ∀ w : World, (binOp .eql 46 (.agg #[.int .i64 a0, .int .i64 a1, .int .u64 a2, .string a]) (.agg #[.int .i64 b0, .int .i64 b1, .int .u64 b2, .string b])).run Tryz.prog w = .ok (.bool (eqF a0 a1 a2 b0 b1 b2 a b)) w := fun w => by
  have h1 : Tryz.prog.underlying 46 = some (.struct (Tryz.prog.fieldsOf 46)) := by kernel_rfl
  have h2 : Tryz.prog.stoodInHeld 46 = false := by kernel_rfl
  have hs : Tryz.prog.underlying 9 = some .string := Tryz.underlying9
  rw [run_eql_struct, run_equalIn_struct w 9999 _ _ _ h1 h2]
  have hf : (Tryz.prog.fieldsOf 46).toList.map (fun f => (f.name, f.type, f.offset)) = [("Kind", 3, 0), ("Cell", 3, 1), ("Word", 22, 2), ("Value", 9, 3)] := by kernel_rfl
  generalize (Tryz.prog.fieldsOf 46).toList = fs at hf
  match fs, hf with
  | [f1, f2, f3, f4], hf =>
    simp only [List.map_cons, List.map_nil, List.cons.injEq, Prod.mk.injEq, and_true] at hf
    obtain ⟨⟨n1, t1, o1⟩, ⟨n2, t2, o2⟩, ⟨n3, t3, o3⟩, ⟨n4, t4, o4⟩⟩ := hf
    have p1 : ∀ (x y z : Int) (u : ByteArray) w, (Go.part 3 #[.int .i64 x, .int .i64 y, .int .u64 z, .string u] 0).run Tryz.prog w = .ok (.int .i64 x) w := fun x y z u w => by
      simp [Go.part, go_sem]
    have p2 : ∀ (x y z : Int) (u : ByteArray) w, (Go.part 3 #[.int .i64 x, .int .i64 y, .int .u64 z, .string u] 1).run Tryz.prog w = .ok (.int .i64 y) w := fun x y z u w => by
      simp [Go.part, go_sem]
    have p3 : ∀ (x y z : Int) (u : ByteArray) w, (Go.part 22 #[.int .i64 x, .int .i64 y, .int .u64 z, .string u] 2).run Tryz.prog w = .ok (.int .u64 z) w := fun x y z u w => by
      simp [Go.part, go_sem]
    have p4 : ∀ (x y z : Int) (u : ByteArray) w, (Go.part 9 #[.int .i64 x, .int .i64 y, .int .u64 z, .string u] 3).run Tryz.prog w = .ok (.string u) w := fun x y z u w => by
      simp [Go.part, go_sem]
    unfold eqF
    rw [beq_toListBytes]
    by_cases h0 : a0 = b0 <;> by_cases h1 : a1 = b1 <;> by_cases h2 : a2 = b2 <;> by_cases h3 : a.toList = b.toList <;>
      simp [Op.eqFields, n1, t1, o1, n2, t2, o2, n3, t3, o3, n4, t4, o4, p1, p2, p3, p4, run_equalIn_string _ _ _ _ _ hs, go_sem, Tryz.underlying3, Tryz.underlying22, Tryz.isAgg3, Tryz.isAgg22, h0, h1, h2, h3]
  | [], hf => cases hf
  | [_], hf => simp at hf
  | [_, _], hf => simp at hf
  | [_, _, _], hf => simp at hf
  | _ :: _ :: _ :: _ :: _ :: _, hf => simp at hf
theorem ne_fr (a0 a1 a2 b0 b1 b2 : Int) (a b : ByteArray) : ∀ w : World, (binOp .neq 46 (.agg #[.int .i64 a0, .int .i64 a1, .int .u64 a2, .string a]) (.agg #[.int .i64 b0, .int .i64 b1, .int .u64 b2, .string b])).run Tryz.prog w = .ok (.bool (!eqF a0 a1 a2 b0 b1 b2 a b)) w := fun w => by
  have h := eq_fr a0 a1 a2 b0 b1 b2 a b w
  rw [run_eql_struct] at h
  rw [run_neq_struct]
  revert h
  cases (Op.equalIn 10000 46 (.agg #[.int .i64 a0, .int .i64 a1, .int .u64 a2, .string a]) (.agg #[.int .i64 b0, .int .i64 b1, .int .u64 b2, .string b])).run Tryz.prog w with
  | ok v w' => cases v <;> simp_all [Result.andThen]
  | _ => simp [Result.andThen]
set_option maxRecDepth 100000 in
set_option maxHeartbeats 1000000 in
/-- May. -/
theorem rmay_any (d : Nat) (t nn kp : Int) (sd b : Nat) (lg : Int) (key : ByteArray) (hk : key.size ≤ 1000000) (w : World) :
    Calls Tryz.prog 8 #[.agg #[.int .u64 (d : Int), .int .i64 t, .int .i64 nn, .int .i64 kp, .int .u64 (sd : Int)], .agg #[.int .u64 (b : Int), .int .i64 lg], .string key] w (Gives (.bool (Dk.right (d : Int) t nn kp && Tb.right (b : Int) (Tb.grp lg) && decide (key.size ≤ 16))) w) := by
  have HB0 := Lib.hid (nb_below w (d : Int) t nn kp (sd : Int) (b : Int) lg)
  have HS : Hid (∀ W, Below (nb w (d : Int) t nn kp (sd : Int) (b : Int) lg).heap.size (nb w (d : Int) t nn kp (sd : Int) (b : Int) lg) W → (W.cell? ⟨w.heap.size, 0, none⟩ = some (.int .u64 (d : Int)) ∧ W.cell? ⟨w.heap.size, 1, none⟩ = some (.int .i64 t) ∧ W.cell? ⟨w.heap.size, 2, none⟩ = some (.int .i64 nn) ∧ W.cell? ⟨w.heap.size, 3, none⟩ = some (.int .i64 kp) ∧ W.cell? ⟨w.heap.size, 4, none⟩ = some (.int .u64 (sd : Int))) ∧ W.cell? ⟨w.heap.size + 1, 0, none⟩ = some (.int .u64 (b : Int)) ∧ W.cell? ⟨w.heap.size + 1, 1, none⟩ = some (.int .i64 lg)) := Lib.hid (fun W hb => by
    have h1 := nb_site hb
    have h2 := nb_table hb
    refine ⟨⟨?_, ?_, ?_, ?_, ?_⟩, ?_, ?_⟩ <;> simp [World.cell?, h1, h2])
  have K1 := drright_any (d : Int) t nn kp (sd : Int) (nb w (d : Int) t nn kp (sd : Int) (b : Int) lg) (by omega)
  have K2 := fun W => trright_any (b : Int) lg W (by omega)
  generalize Dk.right (d : Int) t nn kp = r1 at *
  generalize Tb.right (b : Int) (Tb.grp lg) = r2 at *
  have HK1 := Lib.hid K1
  have HK2 := Lib.hid K2
  obtain ⟨⟨d0, d1, d2, d3, d4⟩, -⟩ := HS.out _ (Below.refl _ _)
  have e16 : decide ((key.size : Int) ≤ 16) = decide (key.size ≤ 16) := by
    by_cases h : key.size ≤ 16
    · rw [decide_eq_true h, decide_eq_true (by omega)]
    · rw [decide_eq_false h, decide_eq_false (by omega)]
  clear K1 K2
  obtain ⟨R, hR⟩ : ∃ R, R = (r1 && r2 && decide (key.size ≤ 16)) := ⟨_, rfl⟩
  rw [← hR]
  have HR := Lib.hid hR
  clear hR
  cases r1
  · go_enter Tryz.func8, Tryz.ntmps8
    go_wp2_with fail
    with_reducible refine HK1.out.mono ?_
    rintro e w1 ⟨rfl, hb1⟩
    have HB1 := Lib.hid (HB0.out.trans (hb1.mono HB0.out.size))
    clear hb1
    go_wp2
    go_ret
    exact ⟨by rw [HR.out]; rfl, HB1.out⟩
  · go_enter Tryz.func8, Tryz.ntmps8
    go_wp2_with fail
    with_reducible refine HK1.out.mono ?_
    rintro e w1 ⟨rfl, hb1⟩
    obtain ⟨-, d5, d6⟩ := HS.out _ hb1
    have HB1 := Lib.hid (HB0.out.trans (hb1.mono HB0.out.size))
    clear hb1 d0 d1 d2 d3 d4
    cases r2
    · go_wp2_with fail
      with_reducible refine (HK2.out _).mono ?_
      rintro e w2 ⟨rfl, hb2⟩
      have HB2 := Lib.hid (HB1.out.trans (hb2.mono HB1.out.size))
      clear hb2 d5 d6
      go_wp2
      go_ret
      exact ⟨by rw [HR.out]; first | rfl | simp, HB2.out⟩
    · go_wp2_with fail
      with_reducible refine (HK2.out _).mono ?_
      rintro e w2 ⟨rfl, hb2⟩
      have HB2 := Lib.hid (HB1.out.trans (hb2.mono HB1.out.size))
      clear hb2 d5 d6
      go_wp2
      go_ret
      exact ⟨by rw [HR.out]; first | rfl | simp, HB2.out⟩
theorem wf_run {c : Sk.C} (ho : Sk.Ok c) {chk : Bool} {gs : List Nat} (hw : ∀ x ∈ gs, x < 18446744073709551616) : ∀ k, k ≤ gs.length → Sk.Wf c (Sk.run c chk (gs.take k))
  | 0, _ => wf_start ho chk
  | k + 1, h => by
    rw [Sk.run_one (by omega)]
    exact Sk.wf_step ho (wf_run ho hw k (by omega)) (Rd.wf_getD hw k)
theorem up_take (gs : List Nat) (k : Nat) : Kr.up (gs.take k) = (Kr.up gs).take k := by simp [Kr.up]
theorem sl_take {w : World} {B k : Nat} {ad : Option Addr} {gs : List Nat} (h : Sl .u64 w B ad (Kr.up gs)) : Sl .u64 w B ad (Kr.up (gs.take k)) := by
  rw [up_take]
  rcases h with h | ⟨b, off, e, hb, hc⟩
  · exact .inl (by rw [h]; simp)
  · refine .inr ⟨b, off, e, hb, fun j hj => ?_⟩
    rw [List.length_take] at hj
    rw [hc j (by omega), List.getElem_take]
/-- What the document's Seek has left on its tape. -/
structure Tape2 (w : World) (t : Nat) (x : A) (m : Bool) : Prop where
  c2 : w.cell? ⟨t, 2, none⟩ = some (.bool m)
  c3 : w.cell? ⟨t, 3, none⟩ = some (.int .i64 x.k)
  c4 : w.cell? ⟨t, 4, none⟩ = some (.int .u64 (x.b : Int))
  c5 : w.cell? ⟨t, 5, none⟩ = some (.int .i64 x.c)
  c6 : w.cell? ⟨t, 6, none⟩ = some (.int .u64 (x.o : Int))
  c7 : w.cell? ⟨t, 7, none⟩ = some (.int .u64 (x.n : Int))
  lt : t < w.heap.size
theorem Tape2.below {w w' : World} {t : Nat} {x : A} {m : Bool} (h : Tape2 w t x m) (hb : Below w.heap.size w w') : Tape2 w' t x m :=
  ⟨(hb.cell (p := ⟨t, 2, none⟩) h.lt).trans h.c2, (hb.cell (p := ⟨t, 3, none⟩) h.lt).trans h.c3, (hb.cell (p := ⟨t, 4, none⟩) h.lt).trans h.c4, (hb.cell (p := ⟨t, 5, none⟩) h.lt).trans h.c5, (hb.cell (p := ⟨t, 6, none⟩) h.lt).trans h.c6, (hb.cell (p := ⟨t, 7, none⟩) h.lt).trans h.c7, Nat.lt_of_lt_of_le h.lt hb.size⟩
theorem rseek_any {B : Nat} {w : World} {t cc : Nat} {ad : Option Addr} {GS : List Nat} {X : A} {chk : Bool} (c : Sk.C) (h : Ts B w t ad GS cc 0 X)
    (hX : (Sk.run c chk GS).p ≠ 0 → X = Sk.act c (Sk.run c chk GS)) (ho : Sk.Ok c) (hh : c.h = Mx.hsh c.sd c.key) (hkey : c.key.length ≤ 16) (hsd : c.sd < 18446744073709551616)
    (hw : ∀ x ∈ GS, x < 18446744073709551616) (hm : GS.length ≤ 1000) :
    Calls Tryz.prog 12 #[.pointer (some ⟨t, 0, none⟩), .agg (siteC (c.d : Int) (c.th : Int) c.nn c.kp (c.sd : Int)), .agg #[.int .u64 (c.b : Int), .int .i64 c.lg], .string ⟨c.key.toArray⟩, .int .u64 (c.lay : Int), .bool chk] w (Sdone B t ad cc X c chk GS w) := by
  by_cases hl : c.lay = 0
  · exact rseek_look c h hl hX ho hh hkey hsd hw hm
  · exact rseek_lay c h hl hX ho hh hkey hsd hw hm
/-- What the document's Seek answers on a new tape. -/
def Rsk (B t : Nat) (c : Sk.C) (s : Sk.S) (w : World) (e : Ending) (w' : World) : Prop := ∃ f : Sk.F, e = .returned (fv f) ∧ (Sk.more s = false → f = s.f) ∧ Tape2 w' t (Sk.act c s) (Sk.more s) ∧ Below B w w'
theorem act_0 (c : Sk.C) {s : Sk.S} (h : s.p = 0) : Sk.act c s = ⟨0, 0, 0, 0, 0⟩ := by unfold Sk.act; simp [h]
/-- The document's Seek, on a new tape that holds the first k answers. -/
theorem seek_round {B : Nat} {w : World} {cap k : Nat} {ad : Option Addr} {gs : List Nat} {chk : Bool} (c : Sk.C) (hs : Sl .u64 w B ad (Kr.up gs)) (hB : B ≤ w.heap.size) (hk : k ≤ gs.length) (ho : Sk.Ok c) (hh : c.h = Mx.hsh c.sd c.key) (hkey : c.key.length ≤ 16) (hsd : c.sd < 18446744073709551616) (hw : ∀ x ∈ gs, x < 18446744073709551616) (hm : gs.length ≤ 1000) :
    Calls Tryz.prog 12 #[.pointer (some ⟨w.heap.size, 0, none⟩), .agg (siteC (c.d : Int) (c.th : Int) c.nn c.kp (c.sd : Int)), .agg #[.int .u64 (c.b : Int), .int .i64 c.lg], .string ⟨c.key.toArray⟩, .int .u64 (c.lay : Int), .bool chk] (w.alloc (.cells #[.slice ad (k : Nat) cap, .int .i64 0, .bool false, .int .i64 0, .int .u64 0, .int .i64 0, .int .u64 0, .int .u64 0] 45))
      (Rsk w.heap.size w.heap.size c (Sk.run c chk (gs.take k)) w) := by
  have hlen : (gs.take k).length = k := by rw [List.length_take]; omega
  have hb : Below w.heap.size w (w.alloc (.cells #[.slice ad k cap, .int .i64 0, .bool false, .int .i64 0, .int .u64 0, .int .i64 0, .int .u64 0, .int .u64 0] 45)) := (Below.refl _ w).alloc (Nat.le_refl _) _
  have hts : Ts w.heap.size (w.alloc (.cells #[.slice ad k cap, .int .i64 0, .bool false, .int .i64 0, .int .u64 0, .int .i64 0, .int .u64 0, .int .u64 0] 45)) w.heap.size ad (gs.take k) cap 0 (Sk.act c (Sk.run c chk (gs.take k))) := by
    refine ⟨Nat.le_refl _, ?_, ((sl_take hs).mono hB).below hb⟩
    rw [Nat.zero_min, decide_eq_false (by omega), if_neg (by omega), hlen]
    exact heap_alloc_new w _
  refine (rseek_any (chk := chk) c hts (fun _ => rfl) ho hh hkey hsd (fun x hx => hw x (List.mem_of_mem_take hx)) (by omega)).mono ?_
  rintro e w' ⟨f, m, rfl, hfw, hT, h1, h2, hch⟩
  have ho2 := hT.own
  rw [hlen] at ho2 h1 h2
  have hbb : Below w.heap.size w w' := hb.trans (hch.below (fun j hj => by rw [show j = w.heap.size from hj]; exact Nat.le_refl _) (by rw [World.size_alloc]; omega))
  by_cases hmk : k < m
  · have hp := h2 hmk
    have hmo : Sk.more (Sk.run c chk (gs.take k)) = true := by unfold Sk.more; simpa using hp
    rw [decide_eq_true hmk, if_pos hmk] at ho2
    exact ⟨f, rfl, fun e => (by rw [hmo] at e; cases e), by rw [hmo]; exact ⟨ho2.c2, ho2.c3, ho2.c4, ho2.c5, ho2.c6, ho2.c7, ho2.lt⟩, hbb⟩
  · obtain ⟨s', hs'⟩ := h1 (by omega)
    have hr := Sk.run_ended (c := c) (chk := chk) (gs := gs.take k) (k := m) (by rw [hs']; rfl)
    rw [hs'] at hr
    have hmo : Sk.more (Sk.run c chk (gs.take k)) = false := by rw [hr]; rfl
    rw [decide_eq_false hmk, if_neg hmk] at ho2
    refine ⟨f, rfl, fun _ => by rw [hr]; rfl, ?_, hbb⟩
    rw [hmo, hr, act_0 c rfl]
    exact ⟨ho2.c2, ho2.c3, ho2.c4, ho2.c5, ho2.c6, ho2.c7, ho2.lt⟩
end Go.Proofs.YtknefjigdlbacaaGreatDoor
set_option linter.unusedSimpArgs false
set_option linter.unusedVariables false
namespace Go.Proofs.YtknefjigdlbacaaGreatDoor
open Go.RowKit Go.Maps
open Ac (A)
/-- The boxes of a table and of a case. -/
abbrev tc (w : World) (d : Nat) (t nn kp : Int) (sd b : Nat) (lg : Int) (key : ByteArray) (lay : Nat) (chk : Bool) : World := (w.alloc (.cells #[.int .u64 (b : Int), .int .i64 lg] 24)).alloc (.cells #[.int .u64 (d : Int), .int .i64 t, .int .i64 nn, .int .i64 kp, .int .u64 (sd : Int), .string key, .int .u64 (lay : Int), .bool chk] 28)
theorem tc_below (w : World) (d : Nat) (t nn kp : Int) (sd b : Nat) (lg : Int) (key : ByteArray) (lay : Nat) (chk : Bool) : Below w.heap.size w (tc w d t nn kp sd b lg key lay chk) := ((Below.refl _ w).alloc (Nat.le_refl _) _).alloc (by simp only [World.size_alloc]; omega) _
theorem tc_at (w : World) (d : Nat) (t nn kp : Int) (sd b : Nat) (lg : Int) (key : ByteArray) (lay : Nat) (chk : Bool) : (tc w d t nn kp sd b lg key lay chk).heap[w.heap.size]? = some (.cells #[.int .u64 (b : Int), .int .i64 lg] 24 (0, 0)) ∧ (tc w d t nn kp sd b lg key lay chk).heap[w.heap.size + 1]? = some (.cells #[.int .u64 (d : Int), .int .i64 t, .int .i64 nn, .int .i64 kp, .int .u64 (sd : Int), .string key, .int .u64 (lay : Int), .bool chk] 28 (0, 0)) ∧ (tc w d t nn kp sd b lg key lay chk).heap.size = w.heap.size + 2 := by
  have h1 := heap_alloc_new w (.cells #[.int .u64 (b : Int), .int .i64 lg] 24)
  have h2 := heap_alloc_new (w.alloc (.cells #[.int .u64 (b : Int), .int .i64 lg] 24)) (.cells #[.int .u64 (d : Int), .int .i64 t, .int .i64 nn, .int .i64 kp, .int .u64 (sd : Int), .string key, .int .u64 (lay : Int), .bool chk] 28)
  rw [World.size_alloc] at h2
  refine ⟨?_, h2, by simp only [World.size_alloc]⟩
  exact (((Below.refl _ _).alloc (Nat.le_refl _) _).block w.heap.size (by rw [World.size_alloc]; omega)).trans h1
set_option maxRecDepth 100000 in
set_option maxHeartbeats 8000000 in
theorem sacts_out (d : Nat) (t nn kp : Int) (sd b : Nat) (lg : Int) (key : ByteArray) (lay : Nat) (chk : Bool) (A0 : Option Addr) (len cap : Nat) (w : World) (hbd : Bd w) (hl : len ≤ maxLen) (hk : key.size ≤ maxLen) (h : 80 < len ∨ 100 < key.size) :
    Calls Tryz.prog 3 #[.agg #[.int .u64 (b : Int), .int .i64 lg], .agg #[.int .u64 (d : Int), .int .i64 t, .int .i64 nn, .int .i64 kp, .int .u64 (sd : Int), .string key, .int .u64 (lay : Int), .bool chk], .slice A0 len cap] w (Gives (.bool true) w) := by
  unfold maxLen at hl hk
  have HB := Lib.hid (tc_below w d t nn kp sd b lg key lay chk)
  obtain ⟨o0, o1, o2⟩ := tc_at w d t nn kp sd b lg key lay chk
  have AW := Lib.hid (awake_any _ (hbd.below HB.out))
  obtain ⟨W, hW⟩ : ∃ W, W = tc w d t nn kp sd b lg key lay chk := ⟨_, rfl⟩
  rw [← hW] at o0 o1 AW HB
  have d5 : W.cell? ⟨w.heap.size + 1, 5, none⟩ = some (.string key) := by simp [World.cell?, o1]
  have HW := Lib.hid hW
  clear hW o0 o1 o2
  by_cases h1 : 80 < len
  · have e1 : (80 : Int) < (len : Int) := by omega
    go_enter Tryz.func3, Tryz.ntmps3
    go_wp2_with fail
    rw [show (w.alloc (.cells #[.int .u64 (b : Int), .int .i64 lg] 24)).alloc (.cells #[.int .u64 (d : Int), .int .i64 t, .int .i64 nn, .int .i64 kp, .int .u64 (sd : Int), .string key, .int .u64 (lay : Int), .bool chk] 28) = W from HW.out.symm]
    with_reducible refine AW.out.mono ?_
    rintro e w' ⟨rfl, hb⟩
    have HB1 := Lib.hid (HB.out.trans (hb.mono HB.out.size))
    clear hb
    go_wp2
    go_ret
    exact ⟨rfl, HB1.out⟩
  · have e1 : ¬ (80 : Int) < (len : Int) := by omega
    have e2 : (100 : Int) < (key.size : Int) := by omega
    go_enter Tryz.func3, Tryz.ntmps3
    go_wp2_with fail
    rw [show (w.alloc (.cells #[.int .u64 (b : Int), .int .i64 lg] 24)).alloc (.cells #[.int .u64 (d : Int), .int .i64 t, .int .i64 nn, .int .i64 kp, .int .u64 (sd : Int), .string key, .int .u64 (lay : Int), .bool chk] 28) = W from HW.out.symm]
    with_reducible refine AW.out.mono ?_
    rintro e w' ⟨rfl, hb⟩
    have HB1 := Lib.hid (HB.out.trans (hb.mono HB.out.size))
    clear hb
    go_wp2
    go_ret
    exact ⟨rfl, HB1.out⟩
set_option maxRecDepth 100000 in
set_option maxHeartbeats 8000000 in
theorem sacts_not (d : Nat) (t nn kp : Int) (sd b : Nat) (lg : Int) (key : ByteArray) (lay : Nat) (chk : Bool) (A0 : Option Addr) (len cap : Nat) (w : World) (hbd : Bd w) (h1 : len ≤ 80) (h2 : key.size ≤ 100) (hm : (Dk.right (d : Int) t nn kp && Tb.right (b : Int) (Tb.grp lg) && decide (key.size ≤ 16)) = false) :
    Calls Tryz.prog 3 #[.agg #[.int .u64 (b : Int), .int .i64 lg], .agg #[.int .u64 (d : Int), .int .i64 t, .int .i64 nn, .int .i64 kp, .int .u64 (sd : Int), .string key, .int .u64 (lay : Int), .bool chk], .slice A0 len cap] w (Gives (.bool true) w) := by
  have HB := Lib.hid (tc_below w d t nn kp sd b lg key lay chk)
  obtain ⟨o0, o1, o2⟩ := tc_at w d t nn kp sd b lg key lay chk
  obtain ⟨W, hW⟩ : ∃ W, W = tc w d t nn kp sd b lg key lay chk := ⟨_, rfl⟩
  rw [← hW] at o0 o1 HB
  have hbW := hbd.below HB.out
  have KN : Hid (Calls Tryz.prog 7 #[.agg #[.int .u64 (d : Int), .int .i64 t, .int .i64 nn, .int .i64 kp, .int .u64 (sd : Int)], .agg #[.int .u64 (b : Int), .int .i64 lg], .string key, .int .u64 (lay : Int), .bool chk] W (Knone W)) := Lib.hid (by
    cases hr : Dk.right (d : Int) t nn kp with
    | false => exact knew_no1 d t nn kp sd b lg key lay chk hbW hr
    | true =>
      cases ht : Tb.right (b : Int) (Tb.grp lg) with
      | false => exact knew_no2 d t nn kp sd b lg key lay chk hbW hr ht
      | true =>
        rw [hr, ht] at hm
        have : ¬ key.size ≤ 16 := by simpa using hm
        exact knew_no3 d t nn kp sd b lg key lay chk hbW hr ht (by omega) (by omega))
  have KM := Lib.hid (fun V => by
    have := rmay_any d t nn kp sd b lg key (by omega) V
    rw [hm] at this
    exact this)
  have d0 : W.cell? ⟨w.heap.size, 0, none⟩ = some (.int .u64 (b : Int)) := by simp [World.cell?, o0]
  have d1 : W.cell? ⟨w.heap.size, 1, none⟩ = some (.int .i64 lg) := by simp [World.cell?, o0]
  have c0 : W.cell? ⟨w.heap.size + 1, 0, none⟩ = some (.int .u64 (d : Int)) := by simp [World.cell?, o1]
  have c1 : W.cell? ⟨w.heap.size + 1, 1, none⟩ = some (.int .i64 t) := by simp [World.cell?, o1]
  have c2 : W.cell? ⟨w.heap.size + 1, 2, none⟩ = some (.int .i64 nn) := by simp [World.cell?, o1]
  have c3 : W.cell? ⟨w.heap.size + 1, 3, none⟩ = some (.int .i64 kp) := by simp [World.cell?, o1]
  have c4 : W.cell? ⟨w.heap.size + 1, 4, none⟩ = some (.int .u64 (sd : Int)) := by simp [World.cell?, o1]
  have c5 : W.cell? ⟨w.heap.size + 1, 5, none⟩ = some (.string key) := by simp [World.cell?, o1]
  have c6 : W.cell? ⟨w.heap.size + 1, 6, none⟩ = some (.int .u64 (lay : Int)) := by simp [World.cell?, o1]
  have c7 : W.cell? ⟨w.heap.size + 1, 7, none⟩ = some (.bool chk) := by simp [World.cell?, o1]
  have HO := Lib.hid (show _ ∧ _ from ⟨o0, o1⟩)
  have HBD := Lib.hid hbW
  have HW := Lib.hid hW
  have e1 : ¬ (80 : Int) < (len : Int) := by omega
  have e2 : ¬ (100 : Int) < (key.size : Int) := by omega
  clear hW o0 o1 o2 hbW hm hbd h1 h2
  go_enter Tryz.func3, Tryz.ntmps3
  go_wp2_with fail
  rw [show (w.alloc (.cells #[.int .u64 (b : Int), .int .i64 lg] 24)).alloc (.cells #[.int .u64 (d : Int), .int .i64 t, .int .i64 nn, .int .i64 kp, .int .u64 (sd : Int), .string key, .int .u64 (lay : Int), .bool chk] 28) = W from HW.out.symm]
  with_reducible refine KN.out.mono ?_
  rintro e w1 ⟨q, rfl, hq, hk, hb1⟩
  have p0 := (hb1.block (w.heap.size) (Array.getElem?_eq_some_iff.1 HO.out.1).1).trans HO.out.1
  have p1 := (hb1.block (w.heap.size + 1) (Array.getElem?_eq_some_iff.1 HO.out.2).1).trans HO.out.2
  have HK := Lib.hid hk
  have HB1 := Lib.hid (HB.out.trans (hb1.mono HB.out.size))
  have HBD1 := Lib.hid (HBD.out.below hb1)
  have d0 : w1.cell? ⟨w.heap.size, 0, none⟩ = some (.int .u64 (b : Int)) := by simp [World.cell?, p0]
  have d1 : w1.cell? ⟨w.heap.size, 1, none⟩ = some (.int .i64 lg) := by simp [World.cell?, p0]
  have c0 : w1.cell? ⟨w.heap.size + 1, 0, none⟩ = some (.int .u64 (d : Int)) := by simp [World.cell?, p1]
  have c1 : w1.cell? ⟨w.heap.size + 1, 1, none⟩ = some (.int .i64 t) := by simp [World.cell?, p1]
  have c2 : w1.cell? ⟨w.heap.size + 1, 2, none⟩ = some (.int .i64 nn) := by simp [World.cell?, p1]
  have c3 : w1.cell? ⟨w.heap.size + 1, 3, none⟩ = some (.int .i64 kp) := by simp [World.cell?, p1]
  have c4 : w1.cell? ⟨w.heap.size + 1, 4, none⟩ = some (.int .u64 (sd : Int)) := by simp [World.cell?, p1]
  have c5 : w1.cell? ⟨w.heap.size + 1, 5, none⟩ = some (.string key) := by simp [World.cell?, p1]
  clear hq hk hb1 p0 p1 KN HBD HB
  go_wp2_with fail
  with_reducible refine (KM.out _).mono ?_
  rintro e w2 ⟨rfl, hb2⟩
  have HK2 := Lib.hid (HK.out.below hb2)
  have HB2 := Lib.hid (HB1.out.trans (hb2.mono HB1.out.size))
  have HBD2 := Lib.hid (HBD1.out.below hb2)
  have KA := kact_0 HK2.out rfl
  rw [act_0 _ rfl] at KA
  have KA := Lib.hid (show Calls Tryz.prog 9 #[.pointer (some ⟨q, 0, none⟩)] w2 (Gives (.tuple #[.agg #[.int .i64 0, .int .u64 0, .int .i64 0, .int .u64 0, .int .u64 0], .bool false]) w2) from KA)
  clear hb2 HK HB1 HBD1 d0 d1 c0 c1 c2 c3 c4 c5
  go_wp2_with fail
  with_reducible refine KA.out.mono ?_
  rintro e w3 ⟨rfl, hb3⟩
  have HW3 : Hid (∀ o, Below w2.heap.size w2 (w3.alloc o)) := Lib.hid (fun o => hb3.alloc hb3.size o)
  have KT := Lib.hid (fun o => ktake_0 (HK2.out.below (HW3.out o)) rfl 1)
  have KR : Hid (∀ o, Calls Tryz.prog 11 #[.pointer (some ⟨q, 0, none⟩)] (w3.alloc o) (Gives (.tuple #[.agg #[.int .i64 0, .int .i64 0, .int .u64 0, .string ⟨#[]⟩], .bool false]) (w3.alloc o))) := Lib.hid (fun o => by
    have := kres_kb (HK2.out.below (HW3.out o))
    rw [show (Sk.zero false).f = Sk.F.z from rfl, show (!eqF ((Sk.F.z.k : Nat) : Int) Sk.F.z.c ((Sk.F.z.w : Nat) : Int) 0 0 0 ⟨Sk.F.z.v.toArray⟩ ⟨#[]⟩) = false by decide] at this
    exact this)
  clear hb3 KA
  go_wp2_with fail
  with_reducible refine (KT.out _).mono ?_
  rintro e w4 ⟨rfl, rfl⟩
  go_wp2_with fail
  with_reducible refine (KR.out _).mono ?_
  rintro e w5 ⟨rfl, hb5⟩
  have HB5 : Hid (∀ o, Below w.heap.size w (w5.alloc o)) := Lib.hid (fun o => by
    have h := (HW3.out _).trans ((hb5.alloc hb5.size o).mono (HW3.out _).size)
    exact HB2.out.trans (h.mono HB2.out.size))
  have HBD5 : Hid (∀ o, Bd (w5.alloc o)) := Lib.hid (fun o => HBD2.out.below ((HW3.out _).trans ((hb5.alloc hb5.size o).mono (HW3.out _).size)))
  have AW : Hid (∀ o, Calls Tryz.prog 6 #[] (w5.alloc o) (Gives (.bool true) (w5.alloc o))) := Lib.hid (fun o => awake_any _ (HBD5.out o))
  clear hb5 KT KR
  go_wp2_with fail
  with_reducible refine (AW.out _).mono ?_
  rintro e w6 ⟨rfl, hb6⟩
  have HB6 := Lib.hid ((HB5.out _).trans (hb6.mono (HB5.out _).size))
  clear hb6
  go_wp2
  go_ret
  exact ⟨rfl, HB6.out⟩
end Go.Proofs.YtknefjigdlbacaaGreatDoor
