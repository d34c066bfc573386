/-
  The walk of Text, kind by kind. By an AI agent. (gen_text.py)
-/
import Derived.Test.YthgabbkpjffdnaaDoorActRightAny
import Derived.Test.YthgabbkpjffdnaaDoorActNames
import Derived.Test.YthgabbkpjffdnaaDoorActWord
import Derived.Test.YthgabbkpjffdnaaDoorDigitText
import Derived.Deep.RegionHeld3
import Derived.Deep.CutRange
import Derived.Test.YthgabbkpjffdnaaDoorArenaOps
set_option linter.unusedSimpArgs false
set_option linter.unusedVariables false
namespace Go.Proofs.YthgabbkpjffdnaaDoor
open Go.RowKit
open Ac (A)
theorem sx0 (v0 v1 v2 v3 : Value) : ∀ w : World, (Instr.index 88 (.agg #[v0, v1, v2, v3]) (.int .i64 0)).run Tryd.prog w = .ok v0 w := fun _ => by kernel_rfl
theorem sx1 (v0 v1 v2 v3 : Value) : ∀ w : World, (Instr.index 88 (.agg #[v0, v1, v2, v3]) (.int .i64 1)).run Tryd.prog w = .ok v1 w := fun _ => by kernel_rfl
theorem sx2 (v0 v1 v2 v3 : Value) : ∀ w : World, (Instr.index 88 (.agg #[v0, v1, v2, v3]) (.int .i64 2)).run Tryd.prog w = .ok v2 w := fun _ => by kernel_rfl
theorem sx3 (v0 v1 v2 v3 : Value) : ∀ w : World, (Instr.index 88 (.agg #[v0, v1, v2, v3]) (.int .i64 3)).run Tryd.prog w = .ok v3 w := fun _ => by kernel_rfl
theorem bools_cells {w w' : World} {v0 v1 v2 v3 : Value} (h : Below (w.alloc (.cells #[v0, v1, v2, v3] 67)).heap.size (w.alloc (.cells #[v0, v1, v2, v3] 67)) w') : w'.cell? ⟨w.heap.size, 0, none⟩ = some v0 ∧ w'.cell? ⟨w.heap.size, 1, none⟩ = some v1 ∧ w'.cell? ⟨w.heap.size, 2, none⟩ = some v2 ∧ w'.cell? ⟨w.heap.size, 3, none⟩ = some v3 := by
  have hs : w.heap.size < (w.alloc (.cells #[v0, v1, v2, v3] 67)).heap.size := by simp
  refine ⟨?_, ?_, ?_, ?_⟩ <;> rw [h.cell hs, World.cell?_alloc_new] <;> rfl
/-- The texts of an act's numbers. -/
structure Txs (x : A) (W : World) (lb lc lo ln : List UInt8) : Prop where
  b : ∀ w', Below W.heap.size W w' → Calls Tryd.prog 46 #[.int .u64 (x.b : Int)] w' (Gives (.string ⟨lb.toArray⟩) w')
  c : ∀ w', Below W.heap.size W w' → Calls Tryd.prog 47 #[.int .i64 x.c] w' (Gives (.string ⟨lc.toArray⟩) w')
  o : ∀ w', Below W.heap.size W w' → Calls Tryd.prog 46 #[.int .u64 (x.o : Int)] w' (Gives (.string ⟨lo.toArray⟩) w')
  n : ∀ w', Below W.heap.size W w' → Calls Tryd.prog 46 #[.int .u64 (x.n : Int)] w' (Gives (.string ⟨ln.toArray⟩) w')
  hb : lb.length ≤ 100
  hc : lc.length ≤ 100
  ho : lo.length ≤ 100
  hn : ln.length ≤ 100
theorem Txs.below {x : A} {W W' : World} {lb lc lo ln : List UInt8} (h : Txs x W lb lc lo ln) (hb : Below W.heap.size W W') : Txs x W' lb lc lo ln :=
  ⟨fun w' h' => h.b w' (hb.trans (h'.mono hb.size)), fun w' h' => h.c w' (hb.trans (h'.mono hb.size)), fun w' h' => h.o w' (hb.trans (h'.mono hb.size)), fun w' h' => h.n w' (hb.trans (h'.mono hb.size)), h.hb, h.hc, h.ho, h.hn⟩
/-- A block of four texts, as it was made. -/
def Al (p : Nat) (w : World) : Prop := w.heap[p]? = some (.cells #[.string ⟨#[]⟩, .string ⟨#[]⟩, .string ⟨#[]⟩, .string ⟨#[]⟩] 88 (0, 0))
theorem Al.new {w w' : World} (h : Below (w.alloc (.cells #[.string ⟨#[]⟩, .string ⟨#[]⟩, .string ⟨#[]⟩, .string ⟨#[]⟩] 88)).heap.size (w.alloc (.cells #[.string ⟨#[]⟩, .string ⟨#[]⟩, .string ⟨#[]⟩, .string ⟨#[]⟩] 88)) w') : Al w.heap.size w' := by
  unfold Al
  rw [h.block _ (by simp)]
  exact heap_alloc_new _ _
theorem Al.newd {w w' : World} (h : Below (w.alloc (.cells #[.string ⟨#[]⟩, .string ⟨#[]⟩, .string ⟨#[]⟩, .string ⟨#[]⟩] 88)).drew.heap.size (w.alloc (.cells #[.string ⟨#[]⟩, .string ⟨#[]⟩, .string ⟨#[]⟩, .string ⟨#[]⟩] 88)).drew w') : Al w.heap.size w' := by
  unfold Al
  rw [h.block _ (by simp [World.drew])]
  exact heap_alloc_new _ _
theorem Al.keep {p : Nat} {w w' : World} (h : Al p w) (hb : Below w.heap.size w w') : Al p w' := by
  unfold Al
  rw [hb.block _ (Array.getElem?_eq_some_iff.1 h).1]
  exact h
theorem Al.cells {p : Nat} {w : World} (h : Al p w) : w.cell? ⟨p, 0, none⟩ = some (.string ⟨#[]⟩) ∧ w.cell? ⟨p, 1, none⟩ = some (.string ⟨#[]⟩) ∧ w.cell? ⟨p, 2, none⟩ = some (.string ⟨#[]⟩) ∧ w.cell? ⟨p, 3, none⟩ = some (.string ⟨#[]⟩) ∧ ∀ i, w.frozen? ⟨p, i, none⟩ = false := by
  unfold Al at h
  refine ⟨?_, ?_, ?_, ?_, fun i => ?_⟩ <;> simp [World.cell?, World.frozen?, h]
/-- The block of the four texts, behind the region. -/
def Tx4 (W : World) (v t0 t1 t2 t3 : Value) (wx : World) : Prop := ∃ p, v = .pointer (some ⟨p, 0, none⟩) ∧ W.heap.size ≤ p ∧ Below W.heap.size W wx ∧ p < wx.heap.size ∧ wx.cell? ⟨p, 0, none⟩ = some t0 ∧ wx.cell? ⟨p, 1, none⟩ = some t1 ∧ wx.cell? ⟨p, 2, none⟩ = some t2 ∧ wx.cell? ⟨p, 3, none⟩ = some t3
theorem tx4_new {W w : World} (B : Below W.heap.size W w) (t0 t1 t2 t3 : Value) : Tx4 W (.pointer (some ⟨w.heap.size, 0, none⟩)) t0 t1 t2 t3 (w.alloc (.cells #[t0, t1, t2, t3] 88)) := by
  refine ⟨_, rfl, B.size, B.alloc B.size _, by simp, ?_, ?_, ?_, ?_⟩ <;> rw [World.cell?_alloc_new] <;> rfl
theorem tx4_set {W w : World} {p : Nat} (A : Al p w) (hp : W.heap.size ≤ p) (B : Below W.heap.size W w) (t0 t1 t2 t3 : Value) : Tx4 W (.pointer (some ⟨p, 0, none⟩)) t0 t1 t2 t3 ((((w.setCell ⟨p, 0, none⟩ t0).setCell ⟨p, 1, none⟩ t1).setCell ⟨p, 2, none⟩ t2).setCell ⟨p, 3, none⟩ t3) := by
  have e := heap_setc (heap_setc (heap_setc (heap_setc A 0 t0) 1 t1) 2 t2) 3 t3
  refine ⟨_, rfl, hp, (((B.setCell (p := ⟨p, 0, none⟩) hp _).setCell (p := ⟨p, 1, none⟩) hp _).setCell (p := ⟨p, 2, none⟩) hp _).setCell (p := ⟨p, 3, none⟩) hp _, (Array.getElem?_eq_some_iff.1 e).1, ?_, ?_, ?_, ?_⟩ <;> simp [World.cell?, e]
set_option maxRecDepth 100000 in
set_option maxHeartbeats 8000000 in
theorem text_yes (k : Int) (b : Nat) (c : Int) (o n : Nat) (f0 f1 f2 f3 : Bool) (lb lc lo ln : List UInt8) (w : World) (hk : Hid (Ac.known k = true)) (hN : Nm w) (HR : Hid (∀ w, Calls Tryd.prog 10 #[.agg #[.int .i64 k, .int .u64 (b : Int), .int .i64 c, .int .u64 (o : Int), .int .u64 (n : Int)]] w (Gives (.bool true) w)))
    (HF : Hid (∀ w, Calls Tryd.prog 37 #[.int .i64 k] w (Gives (.tuple #[.agg #[.bool f0, .bool f1, .bool f2, .bool f3], .bool true]) w))) (HT : Hid (Txs ⟨k, b, c, o, n⟩ w lb lc lo ln)) (Z : List UInt8) (Hf : Hid (f0 = Ac.fb k ∧ f1 = Ac.fc k ∧ f2 = Ac.fo k ∧ f3 = Ac.fn k)) (HZ : Hid (Z = Ac.wordOf k ++ Ac.part f0 lb ++ Ac.part f1 lc ++ Ac.part f2 lo ++ Ac.part f3 ln)) :
    Calls Tryd.prog 22 #[.agg #[.int .i64 k, .int .u64 (b : Int), .int .i64 c, .int .u64 (o : Int), .int .u64 (n : Int)]] w (Gives (.string ⟨Z.toArray⟩) w) := by
  have HB := Lib.hid (boxed_below w (⟨k, b, c, o, n⟩ : A))
  go_enter Tryd.func22, Tryd.ntmps22
  go_wp2_with fail
  with_reducible refine (HR.out _).mono ?_
  rintro e w1 ⟨rfl, hb1⟩
  obtain ⟨c0, c1, c2, c3, c4⟩ := boxed_cells (x := ⟨k, b, c, o, n⟩) hb1
  go_wp2_with fail
  with_reducible refine (HF.out _).mono ?_
  rintro e w2 ⟨rfl, hb2⟩
  clear c0 c1 c2 c3 c4
  have hb12 := Lib.hid (hb1.trans (hb2.mono hb1.size))
  clear hb1 hb2
  go_upto_region 4 with fail
  obtain ⟨W, hW⟩ : ∃ W, W = w2.alloc (.cells #[.bool f0, .bool f1, .bool f2, .bool f3] 67) := ⟨_, rfl⟩
  rw [← hW]
  have hB2W : Below w2.heap.size w2 W := by rw [hW]; exact (Below.refl _ _).alloc (Nat.le_refl _) _
  have HBX := Lib.hid (hb12.out.trans (hB2W.mono hb12.out.size))
  have HBW := Lib.hid (HB.out.trans (HBX.out.mono HB.out.size))
  have HN := Lib.hid (hN.below HBW.out)
  have HTW := Lib.hid (HT.out.below HBW.out)
  have HF4 : Hid (∀ w', Below W.heap.size W w' → w'.cell? ⟨w2.heap.size, 0, none⟩ = some (.bool f0) ∧ w'.cell? ⟨w2.heap.size, 1, none⟩ = some (.bool f1) ∧ w'.cell? ⟨w2.heap.size, 2, none⟩ = some (.bool f2) ∧ w'.cell? ⟨w2.heap.size, 3, none⟩ = some (.bool f3)) := Lib.hid fun w' h => by subst hW; exact bools_cells h
  have hz2 : w2.heap.size < W.heap.size := by rw [hW]; simp
  have hz0 : w.heap.size < w2.heap.size := by have := hb12.out.size; simp at this; omega
  have HK : Hid (∀ w', Below W.heap.size W w' → w'.cell? ⟨w.heap.size, 1, none⟩ = some (.int .u64 (b : Int)) ∧ w'.cell? ⟨w.heap.size, 2, none⟩ = some (.int .i64 c) ∧ w'.cell? ⟨w.heap.size, 3, none⟩ = some (.int .u64 (o : Int)) ∧ w'.cell? ⟨w.heap.size, 4, none⟩ = some (.int .u64 (n : Int))) := Lib.hid fun w' h => (boxed_cells (x := ⟨k, b, c, o, n⟩) (HBX.out.trans (h.mono HBX.out.size))).2
  have HK0 : Hid (∀ w', Below W.heap.size W w' → w'.cell? ⟨w.heap.size, 0, none⟩ = some (.int .i64 k)) := Lib.hid fun w' h => (boxed_cells (x := ⟨k, b, c, o, n⟩) (HBX.out.trans (h.mono HBX.out.size))).1
  clear hW hB2W hb12 HB hN HBX HF HR
  have B : Hid (Below W.heap.size W W.drew) := Lib.hid (Below.refl _ _).drew
  go_cut [5] from 18 to 30 (fun v wx => Tx4 W v (.string ⟨lb.toArray⟩) (.string ⟨lc.toArray⟩) (.string ⟨lo.toArray⟩) (.string ⟨ln.toArray⟩) wx)
  case first =>
    obtain ⟨c1, c2, c3, c4⟩ := HK.out W (Below.refl _ _)
    go_region_held3 (fun w' => w'.cell? ⟨w.heap.size, 1, none⟩ = some (.int .u64 (b : Int)) ∧ w'.cell? ⟨w.heap.size, 2, none⟩ = some (.int .i64 c) ∧ w'.cell? ⟨w.heap.size, 3, none⟩ = some (.int .u64 (o : Int)) ∧ w'.cell? ⟨w.heap.size, 4, none⟩ = some (.int .u64 (n : Int)))
      (first | (with_reducible exact HK.out _ B.out) | (with_reducible exact HK.out _ (B.out.alloc B.out.size _)) | (with_reducible exact HK.out _ ((((B.out.setCell (p := ⟨_, 0, none⟩) hp.out _).setCell (p := ⟨_, 1, none⟩) hp.out _).setCell (p := ⟨_, 2, none⟩) hp.out _).setCell (p := ⟨_, 3, none⟩) hp.out _)) | (with_reducible exact HK.out _ ((Below.refl _ W).alloc (Nat.le_refl _) _).drew) | fail)
      (first
      | (go_at_call 46; (with_reducible refine (HTW.out.b _ ((Below.refl _ W).alloc (Nat.le_refl _) _).drew).mono ?_); rintro e w' ⟨rfl, hb⟩; have A := Lib.hid (Al.newd hb); have hp : Hid (W.heap.size ≤ W.heap.size) := Lib.hid (Nat.le_refl _); obtain ⟨z0, z1, z2, z3, fz⟩ := A.out.cells; have B := Lib.hid (((Below.refl _ W).alloc (Nat.le_refl _) _).drew.trans (hb.mono ((Below.refl _ W).alloc (Nat.le_refl _) _).drew.size)); clear hb)
      | (go_at_call 47; (with_reducible refine (HTW.out.c _ B.out).mono ?_); rintro e w' ⟨rfl, hb⟩; (try have A := Lib.hid (A.out.keep hb)); (try obtain ⟨z0, z1, z2, z3, fz⟩ := A.out.cells); have B := Lib.hid (B.out.trans (hb.mono B.out.size)); clear hb)
      | (go_at_call 47; (with_reducible refine (HTW.out.c _ (B.out.alloc B.out.size _)).mono ?_); rintro e w' ⟨rfl, hb⟩; have A := Lib.hid (Al.new hb); have hp := Lib.hid B.out.size; obtain ⟨z0, z1, z2, z3, fz⟩ := A.out.cells; have B := Lib.hid ((B.out.alloc B.out.size _).trans (hb.mono (B.out.alloc B.out.size _).size)); clear hb)
      | (go_at_call 46; (with_reducible refine (HTW.out.b _ B.out).mono ?_); rintro e w' ⟨rfl, hb⟩; (try have A := Lib.hid (A.out.keep hb)); (try obtain ⟨z0, z1, z2, z3, fz⟩ := A.out.cells); have B := Lib.hid (B.out.trans (hb.mono B.out.size)); clear hb)
      | (go_at_call 46; (with_reducible refine (HTW.out.b _ (B.out.alloc B.out.size _)).mono ?_); rintro e w' ⟨rfl, hb⟩; have A := Lib.hid (Al.new hb); have hp := Lib.hid B.out.size; obtain ⟨z0, z1, z2, z3, fz⟩ := A.out.cells; have B := Lib.hid ((B.out.alloc B.out.size _).trans (hb.mono (B.out.alloc B.out.size _).size)); clear hb)
      | (go_at_call 46; (with_reducible refine (HTW.out.o _ B.out).mono ?_); rintro e w' ⟨rfl, hb⟩; (try have A := Lib.hid (A.out.keep hb)); (try obtain ⟨z0, z1, z2, z3, fz⟩ := A.out.cells); have B := Lib.hid (B.out.trans (hb.mono B.out.size)); clear hb)
      | (go_at_call 46; (with_reducible refine (HTW.out.o _ (B.out.alloc B.out.size _)).mono ?_); rintro e w' ⟨rfl, hb⟩; have A := Lib.hid (Al.new hb); have hp := Lib.hid B.out.size; obtain ⟨z0, z1, z2, z3, fz⟩ := A.out.cells; have B := Lib.hid ((B.out.alloc B.out.size _).trans (hb.mono (B.out.alloc B.out.size _).size)); clear hb)
      | (go_at_call 46; (with_reducible refine (HTW.out.n _ B.out).mono ?_); rintro e w' ⟨rfl, hb⟩; (try have A := Lib.hid (A.out.keep hb)); (try obtain ⟨z0, z1, z2, z3, fz⟩ := A.out.cells); have B := Lib.hid (B.out.trans (hb.mono B.out.size)); clear hb)
      | (go_at_call 46; (with_reducible refine (HTW.out.n _ (B.out.alloc B.out.size _)).mono ?_); rintro e w' ⟨rfl, hb⟩; have A := Lib.hid (Al.new hb); have hp := Lib.hid B.out.size; obtain ⟨z0, z1, z2, z3, fz⟩ := A.out.cells; have B := Lib.hid ((B.out.alloc B.out.size _).trans (hb.mono (B.out.alloc B.out.size _).size)); clear hb)
      | fail)
    all_goals (go_wp2_with fail; go_meet)
    all_goals (first | exact tx4_new B.out _ _ _ _ | exact tx4_set A.out hp.out B.out _ _ _ _)
  case rest =>
    obtain ⟨p, rfl, hp, hBc, hpl, t0, t1, t2, t3⟩ := hcut
    have HBc := Lib.hid (HBW.out.trans (hBc.mono HBW.out.size))
    obtain ⟨n0, n1, n2, n3, n4, n5, n6⟩ := (HN.out.below hBc).cells
    have k0 := HK0.out _ hBc
    obtain ⟨g0, g1, g2, g3⟩ := HF4.out _ hBc
    clear B hBc HK0 HF4 HK HTW HN HBW hp
    obtain h | h | h | h | h | h | h := Ac.kinds hk.out <;> clear hk <;> subst h
    · obtain ⟨e0, e1, e2, e3⟩ := Hf.out
      obtain rfl : f0 = false := e0.trans rfl
      obtain rfl : f1 = false := e1.trans rfl
      obtain rfl : f2 = false := e2.trans rfl
      obtain rfl : f3 = false := e3.trans rfl
      clear e0 e1 e2 e3
      have hZ : Z = [110, 111, 110, 101] := by rw [HZ.out]; simp [Ac.wordOf, Ac.part]
      subst hZ
      go_wp2
      refine wp_loop_rounds 5 ?_
      rw [rounds_succ]
      have I := sx0 (.string ⟨lb.toArray⟩) (.string ⟨lc.toArray⟩) (.string ⟨lo.toArray⟩) (.string ⟨ln.toArray⟩)
      go_wp2
      clear I
      rw [rounds_succ]
      have I := sx1 (.string ⟨lb.toArray⟩) (.string ⟨lc.toArray⟩) (.string ⟨lo.toArray⟩) (.string ⟨ln.toArray⟩)
      go_wp2
      clear I
      rw [rounds_succ]
      have I := sx2 (.string ⟨lb.toArray⟩) (.string ⟨lc.toArray⟩) (.string ⟨lo.toArray⟩) (.string ⟨ln.toArray⟩)
      go_wp2
      clear I
      rw [rounds_succ]
      have I := sx3 (.string ⟨lb.toArray⟩) (.string ⟨lc.toArray⟩) (.string ⟨lo.toArray⟩) (.string ⟨ln.toArray⟩)
      go_wp2
      clear I
      rw [rounds_succ]
      go_wp2
      go_ret
      exact ⟨rfl, HBc.out⟩
    · obtain ⟨e0, e1, e2, e3⟩ := Hf.out
      obtain rfl : f0 = true := e0.trans rfl
      obtain rfl : f1 = true := e1.trans rfl
      obtain rfl : f2 = false := e2.trans rfl
      obtain rfl : f3 = false := e3.trans rfl
      clear e0 e1 e2 e3
      obtain ⟨a1, ha1⟩ : ∃ a : List UInt8, a = [108, 111, 97, 100] ++ 32 :: lb := ⟨_, rfl⟩
      have hl1 : a1.length ≤ 200 := by rw [ha1]; have := HT.out.hb; simp; omega
      have E1 : ∀ W, (Op.stringOp .add ⟨#[32]⟩ ⟨lb.toArray⟩).run Tryd.prog W = .ok (.string ⟨(32 :: lb).toArray⟩) W := fun W => run_string_add_lists W [32] lb (by simp) (by have := HT.out.hb; omega)
      have D1 : ∀ W, (Op.stringOp .add ⟨#[108, 111, 97, 100]⟩ ⟨(32 :: lb).toArray⟩).run Tryd.prog W = .ok (.string ⟨a1.toArray⟩) W := fun W => by rw [ha1]; exact run_string_add_lists W [108, 111, 97, 100] (32 :: lb) (by simp) (by have := HT.out.hb; simp; omega)
      obtain ⟨a2, ha2⟩ : ∃ a : List UInt8, a = a1 ++ 32 :: lc := ⟨_, rfl⟩
      have hl2 : a2.length ≤ 400 := by rw [ha2]; have := HT.out.hc; have := hl1; simp; omega
      have E2 : ∀ W, (Op.stringOp .add ⟨#[32]⟩ ⟨lc.toArray⟩).run Tryd.prog W = .ok (.string ⟨(32 :: lc).toArray⟩) W := fun W => run_string_add_lists W [32] lc (by simp) (by have := HT.out.hc; omega)
      have D2 : ∀ W, (Op.stringOp .add ⟨a1.toArray⟩ ⟨(32 :: lc).toArray⟩).run Tryd.prog W = .ok (.string ⟨a2.toArray⟩) W := fun W => by rw [ha2]; exact run_string_add_lists W a1 (32 :: lc) (by omega) (by have := HT.out.hc; simp; omega)
      have hZ : Z = a2 := by rw [HZ.out]; simp [Ac.wordOf, Ac.part, ha1, ha2]
      subst hZ
      clear hl1 ha1 hl2 ha2 HZ HT
      go_wp2
      refine wp_loop_rounds 5 ?_
      rw [rounds_succ]
      have I := sx0 (.string ⟨lb.toArray⟩) (.string ⟨lc.toArray⟩) (.string ⟨lo.toArray⟩) (.string ⟨ln.toArray⟩)
      go_wp2
      clear I
      rw [rounds_succ]
      have I := sx1 (.string ⟨lb.toArray⟩) (.string ⟨lc.toArray⟩) (.string ⟨lo.toArray⟩) (.string ⟨ln.toArray⟩)
      go_wp2
      clear I
      rw [rounds_succ]
      have I := sx2 (.string ⟨lb.toArray⟩) (.string ⟨lc.toArray⟩) (.string ⟨lo.toArray⟩) (.string ⟨ln.toArray⟩)
      go_wp2
      clear I
      rw [rounds_succ]
      have I := sx3 (.string ⟨lb.toArray⟩) (.string ⟨lc.toArray⟩) (.string ⟨lo.toArray⟩) (.string ⟨ln.toArray⟩)
      go_wp2
      clear I
      rw [rounds_succ]
      go_wp2
      go_ret
      exact ⟨rfl, HBc.out⟩
    · obtain ⟨e0, e1, e2, e3⟩ := Hf.out
      obtain rfl : f0 = true := e0.trans rfl
      obtain rfl : f1 = true := e1.trans rfl
      obtain rfl : f2 = false := e2.trans rfl
      obtain rfl : f3 = true := e3.trans rfl
      clear e0 e1 e2 e3
      obtain ⟨a1, ha1⟩ : ∃ a : List UInt8, a = [115, 116, 111, 114, 101] ++ 32 :: lb := ⟨_, rfl⟩
      have hl1 : a1.length ≤ 200 := by rw [ha1]; have := HT.out.hb; simp; omega
      have E1 : ∀ W, (Op.stringOp .add ⟨#[32]⟩ ⟨lb.toArray⟩).run Tryd.prog W = .ok (.string ⟨(32 :: lb).toArray⟩) W := fun W => run_string_add_lists W [32] lb (by simp) (by have := HT.out.hb; omega)
      have D1 : ∀ W, (Op.stringOp .add ⟨#[115, 116, 111, 114, 101]⟩ ⟨(32 :: lb).toArray⟩).run Tryd.prog W = .ok (.string ⟨a1.toArray⟩) W := fun W => by rw [ha1]; exact run_string_add_lists W [115, 116, 111, 114, 101] (32 :: lb) (by simp) (by have := HT.out.hb; simp; omega)
      obtain ⟨a2, ha2⟩ : ∃ a : List UInt8, a = a1 ++ 32 :: lc := ⟨_, rfl⟩
      have hl2 : a2.length ≤ 400 := by rw [ha2]; have := HT.out.hc; have := hl1; simp; omega
      have E2 : ∀ W, (Op.stringOp .add ⟨#[32]⟩ ⟨lc.toArray⟩).run Tryd.prog W = .ok (.string ⟨(32 :: lc).toArray⟩) W := fun W => run_string_add_lists W [32] lc (by simp) (by have := HT.out.hc; omega)
      have D2 : ∀ W, (Op.stringOp .add ⟨a1.toArray⟩ ⟨(32 :: lc).toArray⟩).run Tryd.prog W = .ok (.string ⟨a2.toArray⟩) W := fun W => by rw [ha2]; exact run_string_add_lists W a1 (32 :: lc) (by omega) (by have := HT.out.hc; simp; omega)
      obtain ⟨a3, ha3⟩ : ∃ a : List UInt8, a = a2 ++ 32 :: ln := ⟨_, rfl⟩
      have hl3 : a3.length ≤ 600 := by rw [ha3]; have := HT.out.hn; have := hl2; simp; omega
      have E3 : ∀ W, (Op.stringOp .add ⟨#[32]⟩ ⟨ln.toArray⟩).run Tryd.prog W = .ok (.string ⟨(32 :: ln).toArray⟩) W := fun W => run_string_add_lists W [32] ln (by simp) (by have := HT.out.hn; omega)
      have D3 : ∀ W, (Op.stringOp .add ⟨a2.toArray⟩ ⟨(32 :: ln).toArray⟩).run Tryd.prog W = .ok (.string ⟨a3.toArray⟩) W := fun W => by rw [ha3]; exact run_string_add_lists W a2 (32 :: ln) (by omega) (by have := HT.out.hn; simp; omega)
      have hZ : Z = a3 := by rw [HZ.out]; simp [Ac.wordOf, Ac.part, ha1, ha2, ha3]
      subst hZ
      clear hl1 ha1 hl2 ha2 hl3 ha3 HZ HT
      go_wp2
      refine wp_loop_rounds 5 ?_
      rw [rounds_succ]
      have I := sx0 (.string ⟨lb.toArray⟩) (.string ⟨lc.toArray⟩) (.string ⟨lo.toArray⟩) (.string ⟨ln.toArray⟩)
      go_wp2
      clear I
      rw [rounds_succ]
      have I := sx1 (.string ⟨lb.toArray⟩) (.string ⟨lc.toArray⟩) (.string ⟨lo.toArray⟩) (.string ⟨ln.toArray⟩)
      go_wp2
      clear I
      rw [rounds_succ]
      have I := sx2 (.string ⟨lb.toArray⟩) (.string ⟨lc.toArray⟩) (.string ⟨lo.toArray⟩) (.string ⟨ln.toArray⟩)
      go_wp2
      clear I
      rw [rounds_succ]
      have I := sx3 (.string ⟨lb.toArray⟩) (.string ⟨lc.toArray⟩) (.string ⟨lo.toArray⟩) (.string ⟨ln.toArray⟩)
      go_wp2
      clear I
      rw [rounds_succ]
      go_wp2
      go_ret
      exact ⟨rfl, HBc.out⟩
    · obtain ⟨e0, e1, e2, e3⟩ := Hf.out
      obtain rfl : f0 = true := e0.trans rfl
      obtain rfl : f1 = true := e1.trans rfl
      obtain rfl : f2 = true := e2.trans rfl
      obtain rfl : f3 = true := e3.trans rfl
      clear e0 e1 e2 e3
      obtain ⟨a1, ha1⟩ : ∃ a : List UInt8, a = [99, 97, 115] ++ 32 :: lb := ⟨_, rfl⟩
      have hl1 : a1.length ≤ 200 := by rw [ha1]; have := HT.out.hb; simp; omega
      have E1 : ∀ W, (Op.stringOp .add ⟨#[32]⟩ ⟨lb.toArray⟩).run Tryd.prog W = .ok (.string ⟨(32 :: lb).toArray⟩) W := fun W => run_string_add_lists W [32] lb (by simp) (by have := HT.out.hb; omega)
      have D1 : ∀ W, (Op.stringOp .add ⟨#[99, 97, 115]⟩ ⟨(32 :: lb).toArray⟩).run Tryd.prog W = .ok (.string ⟨a1.toArray⟩) W := fun W => by rw [ha1]; exact run_string_add_lists W [99, 97, 115] (32 :: lb) (by simp) (by have := HT.out.hb; simp; omega)
      obtain ⟨a2, ha2⟩ : ∃ a : List UInt8, a = a1 ++ 32 :: lc := ⟨_, rfl⟩
      have hl2 : a2.length ≤ 400 := by rw [ha2]; have := HT.out.hc; have := hl1; simp; omega
      have E2 : ∀ W, (Op.stringOp .add ⟨#[32]⟩ ⟨lc.toArray⟩).run Tryd.prog W = .ok (.string ⟨(32 :: lc).toArray⟩) W := fun W => run_string_add_lists W [32] lc (by simp) (by have := HT.out.hc; omega)
      have D2 : ∀ W, (Op.stringOp .add ⟨a1.toArray⟩ ⟨(32 :: lc).toArray⟩).run Tryd.prog W = .ok (.string ⟨a2.toArray⟩) W := fun W => by rw [ha2]; exact run_string_add_lists W a1 (32 :: lc) (by omega) (by have := HT.out.hc; simp; omega)
      obtain ⟨a3, ha3⟩ : ∃ a : List UInt8, a = a2 ++ 32 :: lo := ⟨_, rfl⟩
      have hl3 : a3.length ≤ 600 := by rw [ha3]; have := HT.out.ho; have := hl2; simp; omega
      have E3 : ∀ W, (Op.stringOp .add ⟨#[32]⟩ ⟨lo.toArray⟩).run Tryd.prog W = .ok (.string ⟨(32 :: lo).toArray⟩) W := fun W => run_string_add_lists W [32] lo (by simp) (by have := HT.out.ho; omega)
      have D3 : ∀ W, (Op.stringOp .add ⟨a2.toArray⟩ ⟨(32 :: lo).toArray⟩).run Tryd.prog W = .ok (.string ⟨a3.toArray⟩) W := fun W => by rw [ha3]; exact run_string_add_lists W a2 (32 :: lo) (by omega) (by have := HT.out.ho; simp; omega)
      obtain ⟨a4, ha4⟩ : ∃ a : List UInt8, a = a3 ++ 32 :: ln := ⟨_, rfl⟩
      have hl4 : a4.length ≤ 800 := by rw [ha4]; have := HT.out.hn; have := hl3; simp; omega
      have E4 : ∀ W, (Op.stringOp .add ⟨#[32]⟩ ⟨ln.toArray⟩).run Tryd.prog W = .ok (.string ⟨(32 :: ln).toArray⟩) W := fun W => run_string_add_lists W [32] ln (by simp) (by have := HT.out.hn; omega)
      have D4 : ∀ W, (Op.stringOp .add ⟨a3.toArray⟩ ⟨(32 :: ln).toArray⟩).run Tryd.prog W = .ok (.string ⟨a4.toArray⟩) W := fun W => by rw [ha4]; exact run_string_add_lists W a3 (32 :: ln) (by omega) (by have := HT.out.hn; simp; omega)
      have hZ : Z = a4 := by rw [HZ.out]; simp [Ac.wordOf, Ac.part, ha1, ha2, ha3, ha4]
      subst hZ
      clear hl1 ha1 hl2 ha2 hl3 ha3 hl4 ha4 HZ HT
      go_wp2
      refine wp_loop_rounds 5 ?_
      rw [rounds_succ]
      have I := sx0 (.string ⟨lb.toArray⟩) (.string ⟨lc.toArray⟩) (.string ⟨lo.toArray⟩) (.string ⟨ln.toArray⟩)
      go_wp2
      clear I
      rw [rounds_succ]
      have I := sx1 (.string ⟨lb.toArray⟩) (.string ⟨lc.toArray⟩) (.string ⟨lo.toArray⟩) (.string ⟨ln.toArray⟩)
      go_wp2
      clear I
      rw [rounds_succ]
      have I := sx2 (.string ⟨lb.toArray⟩) (.string ⟨lc.toArray⟩) (.string ⟨lo.toArray⟩) (.string ⟨ln.toArray⟩)
      go_wp2
      clear I
      rw [rounds_succ]
      have I := sx3 (.string ⟨lb.toArray⟩) (.string ⟨lc.toArray⟩) (.string ⟨lo.toArray⟩) (.string ⟨ln.toArray⟩)
      go_wp2
      clear I
      rw [rounds_succ]
      go_wp2
      go_ret
      exact ⟨rfl, HBc.out⟩
    · obtain ⟨e0, e1, e2, e3⟩ := Hf.out
      obtain rfl : f0 = true := e0.trans rfl
      obtain rfl : f1 = true := e1.trans rfl
      obtain rfl : f2 = false := e2.trans rfl
      obtain rfl : f3 = true := e3.trans rfl
      clear e0 e1 e2 e3
      obtain ⟨a1, ha1⟩ : ∃ a : List UInt8, a = [97, 100, 100] ++ 32 :: lb := ⟨_, rfl⟩
      have hl1 : a1.length ≤ 200 := by rw [ha1]; have := HT.out.hb; simp; omega
      have E1 : ∀ W, (Op.stringOp .add ⟨#[32]⟩ ⟨lb.toArray⟩).run Tryd.prog W = .ok (.string ⟨(32 :: lb).toArray⟩) W := fun W => run_string_add_lists W [32] lb (by simp) (by have := HT.out.hb; omega)
      have D1 : ∀ W, (Op.stringOp .add ⟨#[97, 100, 100]⟩ ⟨(32 :: lb).toArray⟩).run Tryd.prog W = .ok (.string ⟨a1.toArray⟩) W := fun W => by rw [ha1]; exact run_string_add_lists W [97, 100, 100] (32 :: lb) (by simp) (by have := HT.out.hb; simp; omega)
      obtain ⟨a2, ha2⟩ : ∃ a : List UInt8, a = a1 ++ 32 :: lc := ⟨_, rfl⟩
      have hl2 : a2.length ≤ 400 := by rw [ha2]; have := HT.out.hc; have := hl1; simp; omega
      have E2 : ∀ W, (Op.stringOp .add ⟨#[32]⟩ ⟨lc.toArray⟩).run Tryd.prog W = .ok (.string ⟨(32 :: lc).toArray⟩) W := fun W => run_string_add_lists W [32] lc (by simp) (by have := HT.out.hc; omega)
      have D2 : ∀ W, (Op.stringOp .add ⟨a1.toArray⟩ ⟨(32 :: lc).toArray⟩).run Tryd.prog W = .ok (.string ⟨a2.toArray⟩) W := fun W => by rw [ha2]; exact run_string_add_lists W a1 (32 :: lc) (by omega) (by have := HT.out.hc; simp; omega)
      obtain ⟨a3, ha3⟩ : ∃ a : List UInt8, a = a2 ++ 32 :: ln := ⟨_, rfl⟩
      have hl3 : a3.length ≤ 600 := by rw [ha3]; have := HT.out.hn; have := hl2; simp; omega
      have E3 : ∀ W, (Op.stringOp .add ⟨#[32]⟩ ⟨ln.toArray⟩).run Tryd.prog W = .ok (.string ⟨(32 :: ln).toArray⟩) W := fun W => run_string_add_lists W [32] ln (by simp) (by have := HT.out.hn; omega)
      have D3 : ∀ W, (Op.stringOp .add ⟨a2.toArray⟩ ⟨(32 :: ln).toArray⟩).run Tryd.prog W = .ok (.string ⟨a3.toArray⟩) W := fun W => by rw [ha3]; exact run_string_add_lists W a2 (32 :: ln) (by omega) (by have := HT.out.hn; simp; omega)
      have hZ : Z = a3 := by rw [HZ.out]; simp [Ac.wordOf, Ac.part, ha1, ha2, ha3]
      subst hZ
      clear hl1 ha1 hl2 ha2 hl3 ha3 HZ HT
      go_wp2
      refine wp_loop_rounds 5 ?_
      rw [rounds_succ]
      have I := sx0 (.string ⟨lb.toArray⟩) (.string ⟨lc.toArray⟩) (.string ⟨lo.toArray⟩) (.string ⟨ln.toArray⟩)
      go_wp2
      clear I
      rw [rounds_succ]
      have I := sx1 (.string ⟨lb.toArray⟩) (.string ⟨lc.toArray⟩) (.string ⟨lo.toArray⟩) (.string ⟨ln.toArray⟩)
      go_wp2
      clear I
      rw [rounds_succ]
      have I := sx2 (.string ⟨lb.toArray⟩) (.string ⟨lc.toArray⟩) (.string ⟨lo.toArray⟩) (.string ⟨ln.toArray⟩)
      go_wp2
      clear I
      rw [rounds_succ]
      have I := sx3 (.string ⟨lb.toArray⟩) (.string ⟨lc.toArray⟩) (.string ⟨lo.toArray⟩) (.string ⟨ln.toArray⟩)
      go_wp2
      clear I
      rw [rounds_succ]
      go_wp2
      go_ret
      exact ⟨rfl, HBc.out⟩
    · obtain ⟨e0, e1, e2, e3⟩ := Hf.out
      obtain rfl : f0 = false := e0.trans rfl
      obtain rfl : f1 = true := e1.trans rfl
      obtain rfl : f2 = false := e2.trans rfl
      obtain rfl : f3 = false := e3.trans rfl
      clear e0 e1 e2 e3
      obtain ⟨a1, ha1⟩ : ∃ a : List UInt8, a = [97, 108, 108, 111, 99] ++ 32 :: lc := ⟨_, rfl⟩
      have hl1 : a1.length ≤ 200 := by rw [ha1]; have := HT.out.hc; simp; omega
      have E1 : ∀ W, (Op.stringOp .add ⟨#[32]⟩ ⟨lc.toArray⟩).run Tryd.prog W = .ok (.string ⟨(32 :: lc).toArray⟩) W := fun W => run_string_add_lists W [32] lc (by simp) (by have := HT.out.hc; omega)
      have D1 : ∀ W, (Op.stringOp .add ⟨#[97, 108, 108, 111, 99]⟩ ⟨(32 :: lc).toArray⟩).run Tryd.prog W = .ok (.string ⟨a1.toArray⟩) W := fun W => by rw [ha1]; exact run_string_add_lists W [97, 108, 108, 111, 99] (32 :: lc) (by simp) (by have := HT.out.hc; simp; omega)
      have hZ : Z = a1 := by rw [HZ.out]; simp [Ac.wordOf, Ac.part, ha1]
      subst hZ
      clear hl1 ha1 HZ HT
      go_wp2
      refine wp_loop_rounds 5 ?_
      rw [rounds_succ]
      have I := sx0 (.string ⟨lb.toArray⟩) (.string ⟨lc.toArray⟩) (.string ⟨lo.toArray⟩) (.string ⟨ln.toArray⟩)
      go_wp2
      clear I
      rw [rounds_succ]
      have I := sx1 (.string ⟨lb.toArray⟩) (.string ⟨lc.toArray⟩) (.string ⟨lo.toArray⟩) (.string ⟨ln.toArray⟩)
      go_wp2
      clear I
      rw [rounds_succ]
      have I := sx2 (.string ⟨lb.toArray⟩) (.string ⟨lc.toArray⟩) (.string ⟨lo.toArray⟩) (.string ⟨ln.toArray⟩)
      go_wp2
      clear I
      rw [rounds_succ]
      have I := sx3 (.string ⟨lb.toArray⟩) (.string ⟨lc.toArray⟩) (.string ⟨lo.toArray⟩) (.string ⟨ln.toArray⟩)
      go_wp2
      clear I
      rw [rounds_succ]
      go_wp2
      go_ret
      exact ⟨rfl, HBc.out⟩
    · obtain ⟨e0, e1, e2, e3⟩ := Hf.out
      obtain rfl : f0 = true := e0.trans rfl
      obtain rfl : f1 = false := e1.trans rfl
      obtain rfl : f2 = false := e2.trans rfl
      obtain rfl : f3 = false := e3.trans rfl
      clear e0 e1 e2 e3
      obtain ⟨a1, ha1⟩ : ∃ a : List UInt8, a = [102, 114, 101, 101] ++ 32 :: lb := ⟨_, rfl⟩
      have hl1 : a1.length ≤ 200 := by rw [ha1]; have := HT.out.hb; simp; omega
      have E1 : ∀ W, (Op.stringOp .add ⟨#[32]⟩ ⟨lb.toArray⟩).run Tryd.prog W = .ok (.string ⟨(32 :: lb).toArray⟩) W := fun W => run_string_add_lists W [32] lb (by simp) (by have := HT.out.hb; omega)
      have D1 : ∀ W, (Op.stringOp .add ⟨#[102, 114, 101, 101]⟩ ⟨(32 :: lb).toArray⟩).run Tryd.prog W = .ok (.string ⟨a1.toArray⟩) W := fun W => by rw [ha1]; exact run_string_add_lists W [102, 114, 101, 101] (32 :: lb) (by simp) (by have := HT.out.hb; simp; omega)
      have hZ : Z = a1 := by rw [HZ.out]; simp [Ac.wordOf, Ac.part, ha1]
      subst hZ
      clear hl1 ha1 HZ HT
      go_wp2
      refine wp_loop_rounds 5 ?_
      rw [rounds_succ]
      have I := sx0 (.string ⟨lb.toArray⟩) (.string ⟨lc.toArray⟩) (.string ⟨lo.toArray⟩) (.string ⟨ln.toArray⟩)
      go_wp2
      clear I
      rw [rounds_succ]
      have I := sx1 (.string ⟨lb.toArray⟩) (.string ⟨lc.toArray⟩) (.string ⟨lo.toArray⟩) (.string ⟨ln.toArray⟩)
      go_wp2
      clear I
      rw [rounds_succ]
      have I := sx2 (.string ⟨lb.toArray⟩) (.string ⟨lc.toArray⟩) (.string ⟨lo.toArray⟩) (.string ⟨ln.toArray⟩)
      go_wp2
      clear I
      rw [rounds_succ]
      have I := sx3 (.string ⟨lb.toArray⟩) (.string ⟨lc.toArray⟩) (.string ⟨lo.toArray⟩) (.string ⟨ln.toArray⟩)
      go_wp2
      clear I
      rw [rounds_succ]
      go_wp2
      go_ret
      exact ⟨rfl, HBc.out⟩
end Go.Proofs.YthgabbkpjffdnaaDoor
