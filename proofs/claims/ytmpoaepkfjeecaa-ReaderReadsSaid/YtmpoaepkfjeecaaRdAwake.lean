/-
  The walk of awake: the chapter's example, and a reader that nobody made. By an AI agent.
-/
import Derived.Test.YtmpoaepkfjeecaaRdRun
set_option linter.unusedSimpArgs false
set_option linter.unusedVariables false
namespace Go.Proofs.Ytmpoaepkfjeecaa
open Go.RowKit Go.Maps
open Mm (Mem Blk)
open Ac (A)
theorem bx_ex : Kr.bx [97] [98, 99] = [513, 97, 25442] := by decide
set_option maxRecDepth 100000 in
/-- A pair and itself. -/
theorem ne_pr (a b : ByteArray) : ∀ w : World, (binOp .neq 33 (.agg #[.string a, .string b]) (.agg #[.string a, .string b])).run Try.prog w = .ok (.bool false) w := fun w => by
  have h1 : Try.prog.underlying 33 = some (.struct (Try.prog.fieldsOf 33)) := by kernel_rfl
  have h2 : Try.prog.stoodInHeld 33 = false := by kernel_rfl
  have hs : Try.prog.underlying 9 = some .string := Try.underlying9
  rw [run_neq_struct, run_equalIn_struct w 9999 _ _ _ h1 h2]
  have hf : (Try.prog.fieldsOf 33).toList.map (fun f => (f.name, f.type, f.offset)) = [("Key", 9, 0), ("Value", 9, 1)] := by kernel_rfl
  generalize (Try.prog.fieldsOf 33).toList = fs at hf
  match fs, hf with
  | [f1, f2], hf =>
    simp only [List.map_cons, List.map_nil, List.cons.injEq, Prod.mk.injEq, and_true] at hf
    obtain ⟨⟨n1, t1, o1⟩, ⟨n2, t2, o2⟩⟩ := hf
    have p1 : ∀ w, (Go.part 9 #[.string a, .string b] 0).run Try.prog w = .ok (.string a) w := fun w => by
      first | rfl | simp [Go.part, go_sem]
    have p2 : ∀ w, (Go.part 9 #[.string a, .string b] 1).run Try.prog w = .ok (.string b) w := fun w => by
      first | rfl | simp [Go.part, go_sem]
    simp [Op.eqFields, n1, t1, o1, n2, t2, o2, p1, p2, run_equalIn_string _ _ _ _ _ hs]
  | [], hf => cases hf
  | [_], hf => simp at hf
  | _ :: _ :: _ :: _, hf => simp at hf
set_option maxRecDepth 100000 in
theorem eq_pr (a b : ByteArray) : ∀ w : World, (binOp .eql 33 (.agg #[.string a, .string b]) (.agg #[.string a, .string b])).run Try.prog w = .ok (.bool true) w := fun w => by
  have h1 : Try.prog.underlying 33 = some (.struct (Try.prog.fieldsOf 33)) := by kernel_rfl
  have h2 : Try.prog.stoodInHeld 33 = false := by kernel_rfl
  have hs : Try.prog.underlying 9 = some .string := Try.underlying9
  rw [run_eql_struct, run_equalIn_struct w 9999 _ _ _ h1 h2]
  have hf : (Try.prog.fieldsOf 33).toList.map (fun f => (f.name, f.type, f.offset)) = [("Key", 9, 0), ("Value", 9, 1)] := by kernel_rfl
  generalize (Try.prog.fieldsOf 33).toList = fs at hf
  match fs, hf with
  | [f1, f2], hf =>
    simp only [List.map_cons, List.map_nil, List.cons.injEq, Prod.mk.injEq, and_true] at hf
    obtain ⟨⟨n1, t1, o1⟩, ⟨n2, t2, o2⟩⟩ := hf
    have p1 : ∀ w, (Go.part 9 #[.string a, .string b] 0).run Try.prog w = .ok (.string a) w := fun w => by
      first | rfl | simp [Go.part, go_sem]
    have p2 : ∀ w, (Go.part 9 #[.string a, .string b] 1).run Try.prog w = .ok (.string b) w := fun w => by
      first | rfl | simp [Go.part, go_sem]
    simp [Op.eqFields, n1, t1, o1, n2, t2, o2, p1, p2, run_equalIn_string _ _ _ _ _ hs]
  | [], hf => cases hf
  | [_], hf => simp at hf
  | _ :: _ :: _ :: _, hf => simp at hf
/-- A new reader. -/
theorem rst_new {w w' : World} {b : Nat} (gs : List Nat) (h : Rb w' w.heap.size ⟨1, b, 0, 0, 0⟩ none 0 0) : Rst w.heap.size w' w.heap.size b gs 0 none 0 :=
  ⟨Nat.le_refl _, by rw [Rd.act_zero, Rd.nr_zero]; exact h, by rw [Rd.nr_zero, Rd.rd_zero]; exact World.ownsRow_nil _ _ _ _, Nat.zero_le _⟩
/-- A block that stands apart from what changes. -/
structure Aside (F : Nat → Prop) (w : World) (z : Nat) (o : Obj) : Prop where
  at' : w.heap[z]? = some o
  apart : ¬ F z
theorem Aside.lt {F : Nat → Prop} {w : World} {z : Nat} {o : Obj} (h : Aside F w z o) : z < w.heap.size := (Array.getElem?_eq_some_iff.1 h.at').1
theorem Aside.tn {F F' : Nat → Prop} {w w' : World} {z : Nat} {o : Obj} (h : Aside F w z o) (ht : Tn F F' w w') : Aside F' w' z o :=
  ⟨(ht.block z h.lt h.apart).trans h.at', fun e => (ht.foot z e).elim h.apart (fun e2 => by have := h.lt; omega)⟩
theorem Aside.below {F : Nat → Prop} {w w' : World} {z : Nat} {o : Obj} (h : Aside F w z o) (hb : Below w.heap.size w w') : Aside F w' z o := h.tn (Tn.of_below hb)
/-- A new block, aside of a reader's. -/
theorem Aside.new {B q b j c : Nat} {gs : List Nat} {ad : Option Addr} {w : World} (h : Rst B w q b gs j ad c) (cs : Array Value) (t : TypeId) : Aside (Rst.F q gs j ad c) (w.alloc (.cells cs t)) w.heap.size (.cells cs t (0, 0)) :=
  ⟨heap_alloc_new w _, fun e => by have := (h.foot e).2; omega⟩
theorem Aside.cell {F : Nat → Prop} {w : World} {z : Nat} {cs : Array Value} {t : TypeId} {zz : Nat × Nat} (h : Aside F w z (.cells cs t zz)) (i : Nat) {v : Value} (hv : cs[i]? = some v) : w.cell? ⟨z, i, none⟩ = some v := by
  simp [World.cell?, h.at', hv]
set_option maxRecDepth 100000 in
set_option maxHeartbeats 4000000 in
theorem awake_any (w : World) : Calls Try.prog 5 #[] w (Gives (.bool true) w) := by
  obtain ⟨gs, hgs⟩ : ∃ gs, gs = [513, 97, 25442] := ⟨_, rfl⟩
  have hkey : Rd.key gs = [97] := by rw [hgs, ← bx_ex]; exact Rd.key_bx (by decide) (by decide)
  have hval : Rd.val gs = [98, 99] := by rw [hgs, ← bx_ex]; exact Rd.val_bx (by decide) (by decide)
  have hsz : Rd.sz gs = 3 := by rw [hgs, ← bx_ex, Rd.sz_bx (by decide) (by decide)]; rfl
  have hw : ∀ x ∈ gs, x < 18446744073709551616 := by rw [hgs]; decide
  have hlen : gs.length = 3 := by rw [hgs]; rfl
  have g0 : gs.getD 0 0 = 513 := by rw [hgs]; rfl
  have g1 : gs.getD 1 0 = 97 := by rw [hgs]; rfl
  have g2 : gs.getD 2 0 = 25442 := by rw [hgs]; rfl
  clear hgs
  have a2 : Rd.act 3 gs 2 = ⟨1, 3, 2, 0, 0⟩ := Rd.act_yes (by omega)
  have B0 : ∃ B, B = w.heap.size := ⟨_, rfl⟩
  obtain ⟨B, hB⟩ := B0
  have KN : Hid (Calls Try.prog 6 #[.int .u64 3] w fun e w' => e = .returned (.pointer (some ⟨B, 0, none⟩)) ∧ Rst B w' B 3 gs 0 none 0 ∧ Below B w w') := Lib.hid (by
    subst hB
    refine (rnew_any 3 w).mono ?_
    rintro e w' ⟨rfl, h1, h2⟩
    exact ⟨rfl, rst_new gs h1, h2⟩)
  have KA0 : Hid (∀ W ad c, Rst B W B 3 gs 0 ad c → Calls Try.prog 9 #[.pointer (some ⟨B, 0, none⟩)] W (Gives (.tuple #[.agg #[.int .i64 1, .int .u64 3, .int .i64 0, .int .u64 0, .int .u64 0], .bool true]) W)) := Lib.hid (fun W ad c h => by
    have := rdact_any h
    rw [Rd.act_zero, decide_eq_true (by omega)] at this
    exact this)
  have KA2 : Hid (∀ W ad c, Rst B W B 3 gs 2 ad c → Calls Try.prog 9 #[.pointer (some ⟨B, 0, none⟩)] W (Gives (.tuple #[.agg #[.int .i64 1, .int .u64 3, .int .i64 2, .int .u64 0, .int .u64 0], .bool true]) W)) := Lib.hid (fun W ad c h => by
    have := rdact_any h
    rw [a2, decide_eq_true (by omega)] at this
    exact this)
  have KT : ∀ j W ad c, Rst B W B 3 gs j ad c → j < 3 → B ≤ W.heap.size → Calls Try.prog 10 #[.pointer (some ⟨B, 0, none⟩), .int .u64 ((gs.getD j 0 : Nat) : Int)] W fun e w' => e = .returned (.tuple #[]) ∧ ∃ ad' c', Rst B w' B 3 gs (j + 1) ad' c' ∧ Tn (Rst.F B gs j ad c) (Rst.F B gs (j + 1) ad' c') W w' := fun j W ad c h hj hB => rtake_any h hw (by omega) hB
  have KT0 := fun W ad c (h : Rst B W B 3 gs 0 ad c) hB => KT 0 W ad c h (by omega) hB
  have KT1 := fun W ad c (h : Rst B W B 3 gs 1 ad c) hB => KT 1 W ad c h (by omega) hB
  have KT2 := fun W ad c (h : Rst B W B 3 gs 2 ad c) hB => KT 2 W ad c h (by omega) hB
  rw [g0, show ((513 : Nat) : Int) = 513 from rfl] at KT0
  rw [g1, show ((97 : Nat) : Int) = 97 from rfl] at KT1
  rw [g2, show ((25442 : Nat) : Int) = 25442 from rfl] at KT2
  have HT0 := Lib.hid KT0
  have HT1 := Lib.hid KT1
  have HT2 := Lib.hid KT2
  have KR : Hid (∀ W ad c, Rst B W B 3 gs 3 ad c → Calls Try.prog 8 #[.pointer (some ⟨B, 0, none⟩)] W (Gives (.tuple #[.agg #[.string ⟨#[97]⟩, .string ⟨#[98, 99]⟩], .bool true]) W)) := Lib.hid (fun W ad c h => by
    have := rres_any h hw
    unfold rres at this
    rw [if_neg (by omega), hkey, hval] at this
    exact this)
  have KZ : Hid (∀ w1, Calls Try.prog 10 #[.pointer none, .int .u64 1] w1 (Gives (.tuple #[]) w1)) := Lib.hid (fun w1 => rtake_nil 1 w1)
  have KY := Lib.hid rres_nil
  have KB : Hid (∀ w1 q, Rb w1 q ⟨0, 0, 0, 0, 0⟩ none 0 0 → Calls Try.prog 9 #[.pointer (some ⟨q, 0, none⟩)] w1 (Gives (.tuple #[av ⟨0, 0, 0, 0, 0⟩, .bool false]) w1)) := Lib.hid (fun w1 q h => ract_any w1 q 0 0 _ _ h)
  have HBW := Lib.hid hB
  clear KT KT0 KT1 KT2 hkey hval hsz hw hlen g0 g1 g2 a2 hB
  go_enter Try.func5, Try.ntmps5
  go_wp2_with fail
  with_reducible refine KN.out.mono ?_
  rintro e w1 ⟨rfl, hR1, hb1⟩
  have KA := Lib.hid (KA0.out _ _ _ hR1)
  have R1 := Lib.hid hR1
  have HB1 := Lib.hid hb1
  clear hR1 hb1 KN KA0
  go_wp2_with fail
  with_reducible refine KA.out.mono ?_
  rintro e w2 ⟨rfl, hb2⟩
  obtain ⟨W2, hW2⟩ : ∃ W2, W2 = w2.alloc (.cells #[.int .i64 1, .int .u64 3, .int .i64 0, .int .u64 0, .int .u64 0] 29) := ⟨_, rfl⟩
  have hR2 := R1.out.below hb2
  have hA2 := Aside.new hR2 #[.int .i64 1, .int .u64 3, .int .i64 0, .int .u64 0, .int .u64 0] 29
  have hbb2 : Below w2.heap.size w2 W2 := by rw [hW2]; exact (Below.refl _ w2).alloc (Nat.le_refl _) _
  rw [← hW2] at hA2
  have hRW2 := hR2.below hbb2
  have hBW2 : Below B w W2 := HB1.out.trans ((hb2.trans (hbb2.mono hb2.size)).mono (by have := R1.out.own.lt; have := R1.out.qB; omega))
  have KTa := Lib.hid (HT0.out _ _ _ hRW2 (by have := hRW2.own.lt; have := hRW2.qB; omega))
  have RW2 := Lib.hid hRW2
  have A2 := Lib.hid hA2
  have BW2 := Lib.hid hBW2
  clear hR2 hA2 hbb2 hRW2 hBW2 hb2 KA R1 HB1 HT0
  go_wp2_with fail
  rw [← hW2]
  clear hW2
  generalize w2.heap.size = za at A2 ⊢
  with_reducible refine KTa.out.mono ?_
  rintro e w3 ⟨rfl, ad3, c3, hR3, ht3⟩
  have A3 := Lib.hid (A2.out.tn ht3)
  have KTb := Lib.hid (HT1.out _ _ _ hR3 (by have := hR3.own.lt; have := hR3.qB; omega))
  have BW3 := Lib.hid (BW2.out.trans (ht3.below (fun k hk => (RW2.out.foot hk).1) (by have := RW2.out.own.lt; have := RW2.out.qB; omega)))
  have R3 := Lib.hid hR3
  clear hR3 ht3 KTa A2 BW2 RW2 HT1
  go_wp2_with fail
  with_reducible refine KTb.out.mono ?_
  rintro e w4 ⟨rfl, ad4, c4, hR4, ht4⟩
  have A4 := Lib.hid (A3.out.tn ht4)
  have BW4 := Lib.hid (BW3.out.trans (ht4.below (fun k hk => (R3.out.foot hk).1) (by have := R3.out.own.lt; have := R3.out.qB; omega)))
  have KA := Lib.hid (KA2.out _ _ _ hR4)
  have R4 := Lib.hid hR4
  clear hR4 ht4 KTb A3 BW3 R3 KA2
  go_wp2_with fail
  with_reducible refine KA.out.mono ?_
  rintro e w5 ⟨rfl, hb5⟩
  obtain ⟨W5, hW5⟩ : ∃ W5, W5 = w5.alloc (.cells #[.int .i64 1, .int .u64 3, .int .i64 2, .int .u64 0, .int .u64 0] 29) := ⟨_, rfl⟩
  have hR5 := R4.out.below hb5
  have hA5 := Aside.new hR5 #[.int .i64 1, .int .u64 3, .int .i64 2, .int .u64 0, .int .u64 0] 29
  have hbb5 : Below w5.heap.size w5 W5 := by rw [hW5]; exact (Below.refl _ w5).alloc (Nat.le_refl _) _
  rw [← hW5] at hA5
  have hRW5 := hR5.below hbb5
  have hb45 := hb5.trans (hbb5.mono hb5.size)
  have hBW5 : Below B w W5 := BW4.out.trans (hb45.mono (by have := R4.out.own.lt; have := R4.out.qB; omega))
  have KTa := Lib.hid (HT2.out _ _ _ hRW5 (by have := hRW5.own.lt; have := hRW5.qB; omega))
  have RW5 := Lib.hid hRW5
  have AA5 := Lib.hid (A4.out.below hb45)
  have A5 := Lib.hid hA5
  have BW5 := Lib.hid hBW5
  clear hR5 hA5 hbb5 hRW5 hBW5 hb5 hb45 KA R4 A4 BW4 HT2
  go_wp2_with fail
  rw [← hW5]
  clear hW5
  generalize w5.heap.size = zb at A5 ⊢
  with_reducible refine KTa.out.mono ?_
  rintro e w6 ⟨rfl, ad6, c6, hR6, ht6⟩
  have AA6 := Lib.hid (AA5.out.tn ht6)
  have A6 := Lib.hid (A5.out.tn ht6)
  have BW6 := Lib.hid (BW5.out.trans (ht6.below (fun k hk => (RW5.out.foot hk).1) (by have := RW5.out.own.lt; have := RW5.out.qB; omega)))
  have KS := Lib.hid (KR.out _ _ _ hR6)
  have R6 := Lib.hid hR6
  clear hR6 ht6 KTa A5 AA5 BW5 RW5 KR
  go_wp2_with fail
  with_reducible refine KS.out.mono ?_
  rintro e w7 ⟨rfl, hb7⟩
  obtain ⟨W7, hW7⟩ : ∃ W7, W7 = w7.alloc (.cells #[.string ⟨#[97]⟩, .string ⟨#[98, 99]⟩] 33) := ⟨_, rfl⟩
  have hR7 := R6.out.below hb7
  have hA7 := Aside.new hR7 #[.string ⟨#[97]⟩, .string ⟨#[98, 99]⟩] 33
  have hbb7 : Below w7.heap.size w7 W7 := by rw [hW7]; exact (Below.refl _ w7).alloc (Nat.le_refl _) _
  rw [← hW7] at hA7
  have hb67 := hb7.trans (hbb7.mono hb7.size)
  have BW7 := Lib.hid (BW6.out.trans (hb67.mono (by have := R6.out.own.lt; have := R6.out.qB; omega)))
  have AA7 := Lib.hid (AA6.out.below hb67)
  have AB7 := Lib.hid (A6.out.below hb67)
  have A7 := Lib.hid hA7
  have HSZ := Lib.hid (show B ≤ W7.heap.size from BW7.out.size |> fun h => by have := HBW.out; omega)
  clear hR7 hA7 hbb7 hb67 hb7 KS R6 A6 AA6 BW6
  go_wp2_with fail
  rw [← hW7]
  clear hW7
  generalize w7.heap.size = zc at A7 ⊢
  with_reducible refine (KZ.out _).mono ?_
  rintro e w8 ⟨rfl, hb8⟩
  have HB8 := Lib.hid hb8
  clear hb8 KZ
  go_wp2_with fail
  with_reducible refine (KY.out _).mono ?_
  rintro e w9 ⟨rfl, hb9⟩
  have HB9 := Lib.hid (HB8.out.trans (hb9.mono HB8.out.size))
  clear hb9 HB8 KY
  go_wp2_with fail
  obtain ⟨W9, hW9⟩ : ∃ W9, W9 = w9.alloc (.cells #[.string ⟨#[]⟩, .string ⟨#[]⟩] 33) := ⟨_, rfl⟩
  rw [← hW9]
  have HBw9 := Lib.hid (HB9.out.trans (show Below W7.heap.size w9 W9 by rw [hW9]; exact ((Below.refl _ w9).alloc (Nat.le_refl _) _).mono HB9.out.size))
  have H9 := Lib.hid (show w9.heap.size + 1 = W9.heap.size by rw [hW9, World.size_alloc])
  clear hW9 HB9
  obtain ⟨W10, hW10⟩ : ∃ W10, W10 = W9.alloc (.cells #[.int .i64 0, .int .u64 0, .int .i64 0, .int .u64 0, .int .u64 0, .slice none 0 0] 55) := ⟨_, rfl⟩
  have hbl : Rb W10 W9.heap.size ⟨0, 0, 0, 0, 0⟩ none 0 0 := by rw [hW10]; exact heap_alloc_new W9 _
  have HB10 := Lib.hid (HBw9.out.trans (show Below W7.heap.size W9 W10 by rw [hW10]; exact ((Below.refl _ W9).alloc (Nat.le_refl _) _).mono HBw9.out.size))
  have KBB := Lib.hid (KB.out _ _ hbl)
  rw [← hW10, H9.out]
  clear hW10 HBw9 hbl KB
  with_reducible refine KBB.out.mono ?_
  rintro e w11 ⟨rfl, hb11⟩
  have HB11 := Lib.hid (HB10.out.trans (hb11.mono HB10.out.size))
  clear hb11 HB10 KBB
  have hBF : ∀ o, Below W7.heap.size W7 (w11.alloc o) := fun o => HB11.out.trans (((Below.refl _ w11).alloc (Nat.le_refl _) _).mono HB11.out.size)
  have x0 := fun o => (AA7.out.below (hBF o)).cell 0 rfl
  have x1 := fun o => (AA7.out.below (hBF o)).cell 1 rfl
  have x2 := fun o => (AA7.out.below (hBF o)).cell 2 rfl
  have x3 := fun o => (AA7.out.below (hBF o)).cell 3 rfl
  have x4 := fun o => (AA7.out.below (hBF o)).cell 4 rfl
  have y2 := fun o => (AB7.out.below (hBF o)).cell 2 rfl
  have z0 := fun o => (A7.out.below (hBF o)).cell 0 rfl
  have z1 := fun o => (A7.out.below (hBF o)).cell 1 rfl
  have HBF := Lib.hid hBF
  clear hBF
  have q1 := eq_act 1 3 0 0 0 1 3 0 0 0
  rw [eqB_self] at q1
  have q2 := eq_pr ⟨#[97]⟩ ⟨#[98, 99]⟩
  go_wp2
  go_ret
  exact ⟨rfl, HBW.out ▸ BW7.out.trans ((HBF.out _).mono HSZ.out)⟩
end Go.Proofs.Ytmpoaepkfjeecaa
