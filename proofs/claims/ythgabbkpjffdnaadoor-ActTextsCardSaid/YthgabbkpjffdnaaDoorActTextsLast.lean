/-
  What is proved: ActTexts (promise P9.2) returns true for every act and every text. Its conditions: the four listed tables (three of Go's own library, and the names of the kinds) hold what their initialisers lay (tied to the program's text). By an AI agent.
-/
import Derived.Test.YthgabbkpjffdnaaDoorActRefReadAll
import Derived.Test.YthgabbkpjffdnaaDoorActCommon
import Derived.Deep.CutRange
import Derived.ShutString
import Derived.ChangeOld
import Derived.Below
import Derived.WideKeyPair
set_option linter.unusedSimpArgs false
set_option linter.unusedVariables false
namespace Go.Proofs.YthgabbkpjffdnaaDoor
open Go.RowKit
open Ac (A)
theorem ne_act (a0 a1 a2 a3 a4 b0 b1 b2 b3 b4 : Int) : ∀ w : World, (binOp .neq 26 (.agg #[.int .i64 a0, .int .u64 a1, .int .i64 a2, .int .u64 a3, .int .u64 a4]) (.agg #[.int .i64 b0, .int .u64 b1, .int .i64 b2, .int .u64 b3, .int .u64 b4])).run Tryd.prog w = .ok (.bool (!eqB a0 a1 a2 a3 a4 b0 b1 b2 b3 b4)) w := fun w => by
  have h := eq_act a0 a1 a2 a3 a4 b0 b1 b2 b3 b4 w
  rw [run_eql_struct] at h
  rw [run_neq_struct]
  revert h
  cases (Op.equalIn 10000 26 (.agg #[.int .i64 a0, .int .u64 a1, .int .i64 a2, .int .u64 a3, .int .u64 a4]) (.agg #[.int .i64 b0, .int .u64 b1, .int .i64 b2, .int .u64 b3, .int .u64 b4])).run Tryd.prog w with
  | ok r w' =>
    intro h
    simp only [Result.andThen_ok] at h ⊢
    simp only [Result.ok.injEq, Value.bool.injEq] at h
    obtain ⟨rfl, rfl⟩ := h
    rfl
  | _ => intro h; cases h
theorem eqB_self (a0 a1 a2 a3 a4 : Int) : eqB a0 a1 a2 a3 a4 a0 a1 a2 a3 a4 = true := by simp [eqB]
set_option maxRecDepth 100000 in
set_option maxHeartbeats 4000000 in
theorem texts_long (x : A) (s : ByteArray) (w : World) (h : 200 < s.size) (hm : s.size ≤ maxLen) (hN : Nm w) (hP : Dt.Pow w) : Calls Tryd.prog 4 #[av x, .string s] w (Gives (.bool true) w) := by
  have HB := Lib.hid (boxed_below w x)
  have HW := Lib.hid (awake_any (boxed w x) (hN.below HB.out) (hP.below HB.out))
  have h2 : (200 : Int) < (s.size : Int) := by omega
  unfold maxLen at hm
  go_enter Tryd.func4, Tryd.ntmps4
  go_wp2_with fail
  with_reducible refine HW.out.mono ?_
  rintro e w1 ⟨rfl, hb⟩
  go_wp2
  go_ret
  exact ⟨rfl, HB.out.trans (hb.mono HB.out.size)⟩
/-- What is read, in parts. -/
theorem rdV_parts (r : Option A) : ∃ k b c o n e : Int, rdV r = .tuple #[.agg #[.int .i64 k, .int .u64 b, .int .i64 c, .int .u64 o, .int .u64 n], .int .i64 e] ∧ (∀ x, r = some x → k = x.k ∧ b = x.b ∧ c = x.c ∧ o = x.o ∧ n = x.n ∧ e = 0) := by
  cases r with
  | none => exact ⟨0, 0, 0, 0, 0, 3, rfl, fun x h => by cases h⟩
  | some x => exact ⟨x.k, x.b, x.c, x.o, x.n, 0, rfl, fun y h => by cases h; exact ⟨rfl, rfl, rfl, rfl, rfl, rfl⟩⟩
theorem text_len {x : A} (h : Fits x) : (tx x).length ≤ 1000 := by
  unfold tx
  split
  · rename_i hr
    obtain ⟨hk, h0, -⟩ := right_parts hr
    have hp : ∀ (f : Bool) (l : List UInt8), (Ac.part f l).length ≤ l.length + 1 := fun f l => by cases f <;> simp [Ac.part]
    have h1 := dec_len h.b
    have h2 := dec_len (u := x.c.toNat) (by have := h.c1; omega)
    have h3 := dec_len h.o
    have h4 := dec_len h.n
    have q1 := hp (Ac.fb x.k) (Lib.decDigits x.b)
    have q2 := hp (Ac.fc x.k) (Lib.decDigits x.c.toNat)
    have q3 := hp (Ac.fo x.k) (Lib.decDigits x.o)
    have q4 := hp (Ac.fn x.k) (Lib.decDigits x.n)
    have hw : (Ac.wordOf x.k).length ≤ 5 := by
      unfold Ac.wordOf
      split; · simp
      split; · simp
      split; · simp
      split; · simp
      split; · simp
      split; · simp
      simp
    simp only [Ac.text, List.length_append]
    omega
  · simp
set_option maxRecDepth 100000 in
set_option maxHeartbeats 8000000 in
theorem texts_few (x : A) (l : List UInt8) (w : World) (h : l.length ≤ 200) (hx : Fits x) (hN : Nm w) (hP : Dt.Pow w) : Calls Tryd.prog 4 #[av x, .string ⟨l.toArray⟩] w (Gives (.bool true) w) := by
  have HB := Lib.hid (boxed_below w x)
  have hlx := text_len hx
  have K1 : Hid (∀ w', Below w.heap.size w w' → Calls Tryd.prog 20 #[.string ⟨l.toArray⟩] w' (Gives (rdV (rd l)) w')) := Lib.hid fun w' hb => read_list l (by omega) w' (hN.below hb)
  have K2 : Hid (∀ w', Calls Tryd.prog 21 #[.string ⟨l.toArray⟩] w' (Gives (rdV (rd l)) w')) := Lib.hid fun w' => rread_list l (by omega) w'
  have K3 : Hid (∀ w', Below w.heap.size w w' → Calls Tryd.prog 22 #[.agg #[.int .i64 x.k, .int .u64 (x.b : Int), .int .i64 x.c, .int .u64 (x.o : Int), .int .u64 (x.n : Int)]] w' (Gives (.string ⟨(tx x).toArray⟩) w')) := Lib.hid fun w' hb => text_any x hx w' (hN.below hb) (hP.below hb)
  have K4 : Hid (∀ w', Calls Tryd.prog 23 #[.agg #[.int .i64 x.k, .int .u64 (x.b : Int), .int .i64 x.c, .int .u64 (x.o : Int), .int .u64 (x.n : Int)]] w' (Gives (.string ⟨(tx x).toArray⟩) w')) := Lib.hid fun w' => rtext_any x hx w'
  have K5 : Hid (∀ w', Below w.heap.size w w' → Calls Tryd.prog 20 #[.string ⟨(tx x).toArray⟩] w' (Gives (rdV (rd (tx x))) w')) := Lib.hid fun w' hb => read_list (tx x) (by omega) w' (hN.below hb)
  have K6 : Hid (∀ w', Calls Tryd.prog 11 #[.agg #[.int .i64 x.k, .int .u64 (x.b : Int), .int .i64 x.c, .int .u64 (x.o : Int), .int .u64 (x.n : Int)]] w' (Gives (.bool (Ac.right x)) w')) := Lib.hid fun w' => rright_any x w'
  have KW : Hid (∀ w', Below w.heap.size w w' → Calls Tryd.prog 7 #[] w' (Gives (.bool true) w')) := Lib.hid fun w' hb => awake_any w' (hN.below hb) (hP.below hb)
  have HBack : Hid (Ac.right x = true → x.c ≤ 999999999999999999 → rd (tx x) = some x) := Lib.hid (fun hr hc => by
    unfold tx
    rw [hr, if_pos rfl]
    exact rd_text hr hx hc)
  clear hN hP hx hlx
  obtain ⟨k1, b1, c1', o1, n1, e1, hv1, -⟩ := rdV_parts (rd l)
  rw [hv1] at K1 K2
  obtain ⟨k2, b2, c2', o2, n2, e2, hv2, hp2⟩ := rdV_parts (rd (tx x))
  rw [hv2] at K5
  have HBk : Hid (Ac.right x = true → x.c ≤ 999999999999999999 → k2 = x.k ∧ b2 = x.b ∧ c2' = x.c ∧ o2 = x.o ∧ n2 = x.n ∧ e2 = 0) := Lib.hid (fun hr hc => hp2 x (HBack.out hr hc))
  clear hv1 hv2 hp2 HBack
  have hsz : (⟨l.toArray⟩ : ByteArray).size ≤ 200 := by simpa [ByteArray.size] using h
  generalize (⟨l.toArray⟩ : ByteArray) = s at K1 K2 hsz ⊢
  generalize (⟨(tx x).toArray⟩ : ByteArray) = t at K3 K4 K5
  have h2 : ¬ (200 : Int) < (s.size : Int) := by omega
  have htt : (t.toList != t.toList) = false := by simp
  have E1 := ne_act k1 b1 c1' o1 n1 k1 b1 c1' o1 n1
  rw [eqB_self] at E1
  have hee : (e1 != e1) = false := by simp
  clear hsz h
  have HBX : Hid (∀ w', Below (boxed w x).heap.size (boxed w x) w' → w'.cell? ⟨w.heap.size, 0, none⟩ = some (.int .i64 x.k) ∧ w'.cell? ⟨w.heap.size, 1, none⟩ = some (.int .u64 x.b) ∧ w'.cell? ⟨w.heap.size, 2, none⟩ = some (.int .i64 x.c) ∧ w'.cell? ⟨w.heap.size, 3, none⟩ = some (.int .u64 x.o) ∧ w'.cell? ⟨w.heap.size, 4, none⟩ = some (.int .u64 x.n)) := Lib.hid fun w' hb => boxed_cells hb
  go_enter Tryd.func4, Tryd.ntmps4
  go_wp2_with fail
  with_reducible refine (K1.out _ HB.out).mono ?_
  rintro e w1 ⟨rfl, hb⟩
  have B := Lib.hid hb; clear hb
  have BA := Lib.hid (B.out.alloc B.out.size (.cells #[.int .i64 k1, .int .u64 b1, .int .i64 c1', .int .u64 o1, .int .u64 n1] 26))
  go_wp2_with fail
  with_reducible refine (K2.out _).mono ?_
  rintro e w2 ⟨rfl, hb⟩
  have HX1 := Lib.hid hb
  have B := Lib.hid (BA.out.trans (hb.mono BA.out.size)); clear hb
  have BB := Lib.hid (B.out.alloc B.out.size (.cells #[.int .i64 k1, .int .u64 b1, .int .i64 c1', .int .u64 o1, .int .u64 n1] 26))
  have hb2 := (Below.refl w2.heap.size w2).alloc (Nat.le_refl _) (.cells #[.int .i64 k1, .int .u64 b1, .int .i64 c1', .int .u64 o1, .int .u64 n1] 26)
  have HX1 := Lib.hid (HX1.out.trans (hb2.mono HX1.out.size))
  clear hb2
  go_upto_region 5 with fail
  have HXb : Hid (∀ w', Below (w2.alloc (.cells #[.int .i64 k1, .int .u64 b1, .int .i64 c1', .int .u64 o1, .int .u64 n1] 26)).heap.size (w2.alloc (.cells #[.int .i64 k1, .int .u64 b1, .int .i64 c1', .int .u64 o1, .int .u64 n1] 26)) w' → w'.cell? ⟨w2.heap.size, 0, none⟩ = some (.int .i64 k1) ∧ w'.cell? ⟨w2.heap.size, 1, none⟩ = some (.int .u64 b1) ∧ w'.cell? ⟨w2.heap.size, 2, none⟩ = some (.int .i64 c1') ∧ w'.cell? ⟨w2.heap.size, 3, none⟩ = some (.int .u64 o1) ∧ w'.cell? ⟨w2.heap.size, 4, none⟩ = some (.int .u64 n1)) := Lib.hid fun w' hb => box5 hb
  obtain ⟨W3, hW3⟩ : ∃ W3, W3 = w2.alloc (.cells #[.int .i64 k1, .int .u64 b1, .int .i64 c1', .int .u64 o1, .int .u64 n1] 26) := ⟨_, rfl⟩
  rw [← hW3] at HX1 BB HXb ⊢
  clear hW3
  obtain ⟨c0, c1, c2, c3, c4⟩ := HBX.out _ BB.out
  have BW := Lib.hid (HB.out.trans (BB.out.mono HB.out.size))
  go_wp2_with fail
  with_reducible refine (K3.out _ BW.out).mono ?_
  rintro e w4 ⟨rfl, hb⟩
  clear c0 c1 c2 c3 c4
  have B4 := Lib.hid hb
  have BB := Lib.hid (BB.out.trans (hb.mono BB.out.size)); clear hb
  obtain ⟨c0, c1, c2, c3, c4⟩ := HBX.out _ BB.out
  go_wp2_with fail
  with_reducible refine (K4.out _).mono ?_
  rintro e w5 ⟨rfl, hb⟩
  clear c0 c1 c2 c3 c4
  have B4 := Lib.hid (B4.out.trans (hb.mono B4.out.size))
  have BB := Lib.hid (BB.out.trans (hb.mono BB.out.size)); clear hb
  obtain ⟨p0, p1, p2, p3, p4⟩ := box5 (HX1.out.trans (B4.out.mono HX1.out.size))
  obtain ⟨q0, q1, q2, q3, q4⟩ := HXb.out _ B4.out
  have BW := Lib.hid (HB.out.trans (BB.out.mono HB.out.size))
  go_wp2_with fail
  clear p0 p1 p2 p3 p4 q0 q1 q2 q3 q4
  with_reducible refine (K5.out _ BW.out).mono ?_
  rintro e w6 ⟨rfl, hb⟩
  have BB := Lib.hid (BB.out.trans (hb.mono BB.out.size)); clear hb
  go_upto_region 9 with fail
  have HXc : Hid (∀ w', Below (w6.alloc (.cells #[.int .i64 k2, .int .u64 b2, .int .i64 c2', .int .u64 o2, .int .u64 n2] 26)).heap.size (w6.alloc (.cells #[.int .i64 k2, .int .u64 b2, .int .i64 c2', .int .u64 o2, .int .u64 n2] 26)) w' → w'.cell? ⟨w6.heap.size, 0, none⟩ = some (.int .i64 k2) ∧ w'.cell? ⟨w6.heap.size, 1, none⟩ = some (.int .u64 b2) ∧ w'.cell? ⟨w6.heap.size, 2, none⟩ = some (.int .i64 c2') ∧ w'.cell? ⟨w6.heap.size, 3, none⟩ = some (.int .u64 o2) ∧ w'.cell? ⟨w6.heap.size, 4, none⟩ = some (.int .u64 n2)) := Lib.hid fun w' hb => box5 hb
  have BB := Lib.hid (BB.out.alloc BB.out.size (.cells #[.int .i64 k2, .int .u64 b2, .int .i64 c2', .int .u64 o2, .int .u64 n2] 26))
  obtain ⟨W7, hW7⟩ : ∃ W7, W7 = w6.alloc (.cells #[.int .i64 k2, .int .u64 b2, .int .i64 c2', .int .u64 o2, .int .u64 n2] 26) := ⟨_, rfl⟩
  rw [← hW7] at BB HXc ⊢
  clear hW7 E1 hee htt
  obtain ⟨c0, c1, c2, c3, c4⟩ := HBX.out _ BB.out
  cases hr : Ac.right x with
  | false =>
    rw [hr] at K6
    go_wp2_with fail
    with_reducible refine (K6.out _).mono ?_
    rintro e w8 ⟨rfl, hb⟩
    have BB := Lib.hid (BB.out.trans (hb.mono BB.out.size)); clear hb
    have BW := Lib.hid (HB.out.trans (BB.out.mono HB.out.size))
    go_wp2_with fail
    with_reducible refine (KW.out _ BW.out).mono ?_
    rintro e w9 ⟨rfl, hb9⟩
    go_wp2
    go_ret
    exact ⟨rfl, BW.out.trans (hb9.mono BW.out.size)⟩
  | true =>
    rw [hr] at K6
    by_cases hc : 999999999999999999 < x.c
    · go_wp2_with fail
      with_reducible refine (K6.out _).mono ?_
      rintro e w8 ⟨rfl, hb⟩
      clear c0 c1 c2 c3 c4
      have BB := Lib.hid (BB.out.trans (hb.mono BB.out.size)); clear hb
      obtain ⟨c0, c1, c2, c3, c4⟩ := HBX.out _ BB.out
      have BW := Lib.hid (HB.out.trans (BB.out.mono HB.out.size))
      go_wp2_with fail
      with_reducible refine (KW.out _ BW.out).mono ?_
      rintro e w9 ⟨rfl, hb9⟩
      go_wp2
      go_ret
      exact ⟨rfl, BW.out.trans (hb9.mono BW.out.size)⟩
    · obtain ⟨rfl, rfl, rfl, rfl, rfl, rfl⟩ := HBk.out hr (by omega)
      have hcB : decide (999999999999999999 < x.c) = false := by simpa using hc
      have E2 := eq_act x.k x.b x.c x.o x.n x.k x.b x.c x.o x.n
      rw [eqB_self] at E2
      clear HBk hr hc
      go_wp2_with fail
      with_reducible refine (K6.out _).mono ?_
      rintro e w8 ⟨rfl, hb⟩
      clear c0 c1 c2 c3 c4
      have HC := Lib.hid hb
      have BB := Lib.hid (BB.out.trans (hb.mono BB.out.size)); clear hb
      obtain ⟨c0, c1, c2, c3, c4⟩ := HBX.out _ BB.out
      obtain ⟨q0, q1, q2, q3, q4⟩ := HXc.out _ HC.out
      have BW := Lib.hid (HB.out.trans (BB.out.mono HB.out.size))
      go_wp2_with fail
      with_reducible refine (KW.out _ BW.out).mono ?_
      rintro e w9 ⟨rfl, hb9⟩
      go_wp2
      go_ret
      exact ⟨rfl, BW.out.trans (hb9.mono BW.out.size)⟩
/-- ████ ActTexts. ████ -/
theorem texts_any (x : A) (s : ByteArray) (w : World) (hs : s.size ≤ maxLen) (hx : Fits x) (hN : Nm w) (hP : Dt.Pow w) : Calls Tryd.prog 4 #[av x, .string s] w (Gives (.bool true) w) := by
  by_cases h : 200 < s.size
  · exact texts_long x s w h hs hN hP
  · obtain ⟨⟨l⟩⟩ := s
    exact texts_few x l w (by simpa [ByteArray.size] using h) hx hN hP
end Go.Proofs.YthgabbkpjffdnaaDoor
namespace Go.Proofs.YthgabbkpjffdnaaDoor.actTexts
open Go.ChangeShapes Go.WideShapes Go.WideMaps Go.WideElems Go.ChangeAt Go.RowKit
open Go.ChangeMaps (open_string shut_string)
open Ac (A)
theorem laidOut : laidOutB Tryd.prog = true := by kernel_rfl
set_option maxRecDepth 100000 in
/-- What the walk gives, for every argument and every world that holds the tables. -/
theorem contract (H : Type) (enc : TypeId × Value → H) (W : World) (base : Nat) (args : Array Value) (ds gs : List (DataW H)) (before : List MemPlace)
    (hval : ∀ (j : Nat) t v, Tryd.f4.params[j]? = some t → args[j]? = some v → Value.okWide Tryd.prog W .any base t v)
    (hW : DataW.Whole enc Tryd.prog Tryd.f4.params.toList Rows.actTextsSpec.vars false W args.toList ds gs before) (hL : laidMetH Tryd.prog Rows.actTextsRow.laid W) :
    Calls Tryd.prog 4 args W fun e W' => ∃ v, e = .returned v ∧ Rows.actTextsSpec.post enc Tryd.prog Tryd.f4 false true false false W args v W' := by
  have hW' := hW
  obtain ⟨p, q, hA0, hV, rfl, hfz, hnd⟩ := hW
  have hA : DataW.TrodAll enc Tryd.prog W 0 (fun _ => true) true Tryd.f4.params.toList args.toList ds p := hA0
  rw [Tryd.params4] at hA hval
  obtain ⟨v0, vs0, d0, ds0, p0, q0, hargs, rfl, rfl, h0, r0⟩ := trodAll_cons hA
  obtain ⟨v1, vs1, d1, ds1, p1, q1, rfl, rfl, rfl, h1, r1⟩ := trodAll_cons r0
  obtain ⟨rfl, rfl, rfl⟩ := trodAll_nil r1
  obtain rfl : args = #[v0, v1] := by cases args; simp_all
  obtain ⟨rfl, rfl⟩ := trodVars_none hV
  have k0 := h0
  have lt0 : ∀ x ∈ p0, x.block < W.heap.size := by obtain ⟨m, hm⟩ := k0; exact DataW.trod_lt m _ _ _ hm
  obtain ⟨x, rfl, hx⟩ := open_act (hval 0 26 v0 rfl rfl) h0
  obtain ⟨s, rfl, rfl, rfl, hs⟩ := open_string Tryd.underlying9 (hval 1 9 v1 rfl rfl) h1
  clear hA0
  have hp : Dt.Pow W := pow_of hL
  have hn : Nm W := nm_of hL
  refine (texts_any x s W hs hx hn hp).mono fun e W' ⟨he, bel⟩ => ?_
  subst he
  exact ⟨_, rfl, _, _, _, [], _, [], hW', trodAll_mk1 (shut_bool Tryd.underlying4 _), (trodAll_cons_mk (Below.trod laidOut (by kernel_rfl) (of_decide_eq_true (by kernel_rfl)) k0 bel lt0) (trodAll_cons_mk (shut_string Tryd.underlying9 hs) trodAll_mk0)), rfl, bel.frame _, fun h => by cases h⟩
theorem laid_met (os : Os) : laidMet Tryd.prog Rows.actTextsRow.laid ((laidWorld os).forCall (fun _ _ => 0) ⟨#[], #[.agg #[.int .i64 0, .int .u64 0, .int .i64 0, .int .u64 0, .int .u64 0], .string ⟨#[]⟩], []⟩).memory :=
  laidMet_of_run' 8 (by kernel_rfl) (by kernel_rfl)
theorem reads (os : Os) {H : Type} (enc : TypeId × Value → H) : ∃ places, DataW.whole enc Tryd.prog ((laidWorld os).forCall (fun _ _ => 0) ⟨#[], #[.agg #[.int .i64 0, .int .u64 0, .int .i64 0, .int .u64 0, .int .u64 0], .string ⟨#[]⟩], []⟩).memory Tryd.f4.params.toList Rows.actTextsSpec.vars false (#[.agg #[.int .i64 0, .int .u64 0, .int .i64 0, .int .u64 0, .int .u64 0], .string ⟨#[]⟩] : Array Value).toList 8 = some ([.agg [.lit (.int .i64 0), .lit (.int .u64 0), .lit (.int .i64 0), .lit (.int .u64 0), .lit (.int .u64 0)], .lit (.string [])], [], places) :=
  ⟨[], by kernel_rfl⟩
set_option maxRecDepth 100000 in
theorem lifted (os : Os) (started : os.Started) (H : Type) (enc : TypeId × Value → H) (F : Stop.Interp) :
    ReturnsInHanded {} Tryd.checked os 4 .any ((OpenSpec.ofChange Rows.actTextsSpec).preRow enc Tryd.prog Tryd.f4 Rows.actTextsRow.domain false Rows.actTextsRow.laid) (((OpenSpec.ofChange Rows.actTextsSpec).at F).post enc Tryd.prog Tryd.f4 false true false false) := by
  obtain ⟨places, hx⟩ := reads os enc
  refine returnsInHanded_of_row (C := Tryd.checked) (s := OpenSpec.ofChange Rows.actTextsSpec) own started (by kernel_rfl) Tryd.func4
    (witness_row_at (enc := enc) (C := Tryd.checked) false (laidWorld os) #[.agg #[.int .i64 0, .int .u64 0, .int .i64 0, .int .u64 0, .int .u64 0], .string ⟨#[]⟩] rfl (by kernel_rfl) (by kernel_rfl) (by kernel_rfl)
      (OpenSpec.preRow_of_cond 8 hx (by kernel_rfl) (fun k hk => by cases hk) (by kernel_rfl) (laid_met os))) ?_
  intro W base args ds gs before hval hW _ _ _ hL _ _
  exact contract H enc W base args ds gs before hval hW hL
theorem said : Rows.ActTextsSaid :=
  OpenClaim.holds_of_cond 4 Tryd.f4 rfl rfl rfl rfl rfl rfl rfl ⟨rfl, rfl, rfl, rfl, rfl⟩ rfl rfl rfl rfl rfl (by kernel_rfl) Tryd.func4 (by kernel_rfl)
    (of_decide_eq_true (by kernel_rfl)) (by unfold Func.isWrapper; first | (rw [if_pos (by decide +kernel)]; kernel_rfl) | (rw [if_neg (by decide +kernel)]; exact ⟨rfl, rfl⟩))
    (fun os started H enc _ F => by rw [OpenClaim.pre_eq_preRow]; exact lifted os started H enc F)
theorem plain (f : FuncId) (fn : Func) (hf : Tryd.pinned.checked.prog.funcNamed "sprocket/sprocketlaw09.ActTexts" = some f) (hfn : Tryd.pinned.checked.prog.funcs[f]? = some fn) :
    false = Tryd.pinned.checked.prog.looks [] ∧ ∀ (j : Nat) t, fn.params[j]? = some t → Tryd.pinned.checked.prog.wantsStandIn t = false := by
  obtain rfl : f = 4 := Option.some.inj ((show Tryd.prog.funcNamed "sprocket/sprocketlaw09.ActTexts" = some 4 by kernel_rfl).symm.trans hf) |>.symm
  obtain rfl : fn = Tryd.f4 := (Option.some.inj (Tryd.func4.symm.trans hfn)).symm
  refine ⟨by kernel_rfl, fun j t ht => ?_⟩
  rw [Tryd.params4] at ht
  have hm := Array.mem_of_getElem? ht
  have ht' : t = 26 ∨ t = 9 := by simpa using hm
  rcases ht' with rfl | rfl
  · exact (show Tryd.prog.wantsStandIn 26 = false by kernel_rfl)
  · exact (show Tryd.prog.wantsStandIn 9 = false by kernel_rfl)
/-- ████ THE CARD ████ -/
theorem card : Rows.ActTextsCardSaid :=
  Claim7.holds_tied_plain_at .later [] _ _ _ _ said (fun _ h => by cases h) (by kernel_rfl) (fun _ h => by cases h) actTexts_row_tie rfl ⟨rfl, rfl⟩ (by kernel_rfl) rfl plain (by kernel_rfl)
end Go.Proofs.YthgabbkpjffdnaaDoor.actTexts
namespace Go.Proofs.YthgabbkpjffdnaaDoor
theorem actTexts_holds : Rows.ActTextsCardSaid := actTexts.card
end Go.Proofs.YthgabbkpjffdnaaDoor
