/-
  Several texts in one: A maker behind so many answers; its Act, Take, Result and New; The walks of next and take: a maker that is asked, and told; The walks of next and take: a seek that is asked, and told; The walk of Right. By an AI agent.
-/
import Derived.Test.YtknefjigdlbacaaGreatDoorSkGAH
import Derived.Test.YtknefjigdlbacaaGreatDoorSkGAC
import Derived.Test.YtknefjigdlbacaaGreatDoorSkGAQ
import Derived.RangeFuncRecord
import Derived.Handy
import Derived.Defers
import Derived.Recover
import Derived.Test.YtknefjigdlbacaaGreatDoorSkGBA
import Derived.Test.YtknefjigdlbacaaGreatDoorSkGAF
set_option linter.unusedSimpArgs false
set_option linter.unusedVariables false
namespace Go.Proofs.YtknefjigdlbacaaGreatDoor
open Go.RowKit Go.Maps
open Ac (A)
/-- What the block's field holds. -/
def fb (j b : Nat) : Nat := if j = 0 then 0 else b
/-- A maker of a box of the words l at block g, behind j answers, the first of them b. -/
structure Mst (B : Nat) (w : World) (q : Nat) (l : List Nat) (g c j b : Nat) : Prop where
  qB : B ≤ q
  gB : B ≤ g
  ne : g ≠ q
  own : Mk w q ⟨5, 0, l.length, 0, 0⟩ (Kr.act l j b) (some ⟨g, 0, none⟩) l.length c (fb j b)
  ltg : g < w.heap.size
  wds : ∀ i, i < l.length → w.cell? ⟨g, i, none⟩ = some (.int .u64 ((l.getD i 0 : Nat) : Int))
section
variable {B : Nat} {w w' : World} {q g c j b : Nat} {l : List Nat}
theorem Mst.keep (h : Mst B w q l g c j b) (hz : w.heap.size ≤ w'.heap.size) (eq : w'.heap[q]? = w.heap[q]?) (eg : w'.heap[g]? = w.heap[g]?) : Mst B w' q l g c j b :=
  ⟨h.qB, h.gB, h.ne, h.own.keep eq, Nat.lt_of_lt_of_le h.ltg hz, fun i hi => by rw [World.cell?, eg]; exact h.wds i hi⟩
theorem Mst.below (h : Mst B w q l g c j b) (hb : Below w.heap.size w w') : Mst B w' q l g c j b := h.keep hb.size (hb.block q h.own.lt) (hb.block g h.ltg)
theorem Mst.took {f : A} (h : Mst B w q l g c j b) {b' : Nat} (hc : Chg q w w') (hm : Mk w' q ⟨5, 0, l.length, 0, 0⟩ (Kr.act l (j + 1) b') (some ⟨g, 0, none⟩) l.length c b') : Mst B w' q l g c (j + 1) b' :=
  ⟨h.qB, h.gB, h.ne, hm, Nat.lt_of_lt_of_le h.ltg hc.size, fun i hi => by rw [World.cell?, hc.block g h.ltg h.ne]; exact h.wds i hi⟩
end
theorem isz_act {l : List Nat} {j b : Nat} : isz (Kr.act l j b) = !Kr.more l.length j b := by
  unfold Kr.act
  cases Kr.more l.length j b with
  | false => rfl
  | true =>
    rw [if_pos rfl]
    split <;> simp [isz, eqB]
/-- Act: the next act, and whether one comes. -/
theorem kact_any {B : Nat} {w : World} {q g c j b : Nat} {l : List Nat} (h : Mst B w q l g c j b) : Calls Tryz.prog 186 #[.pointer (some ⟨q, 0, none⟩)] w (Gives (.tuple #[av (Kr.act l j b), .bool (Kr.more l.length j b)]) w) := by
  have := mact_any w q _ c _ _ _ _ h.own
  rwa [isz_act, Bool.not_not] at this
/-- Result: the block, once no act comes any more. -/
def kres (n j b : Nat) : Value := if Kr.more n j b = true then .tuple #[.int .u64 0, .bool false] else .tuple #[.int .u64 b, .bool true]
theorem kres_any {B : Nat} {w : World} {q g c j b : Nat} {l : List Nat} (h : Mst B w q l g c j b) : Calls Tryz.prog 63 #[.pointer (some ⟨q, 0, none⟩)] w (Same (kres l.length j b) w) := by
  have := mres_any w q _ c _ _ _ _ h.own
  rw [isz_act] at this
  rw [show (!isz ⟨5, 0, l.length, 0, 0⟩) = true from rfl, Bool.true_and] at this
  unfold kres
  cases hm : Kr.more l.length j b with
  | true => rw [hm] at this; exact this
  | false =>
    rw [hm] at this
    have hj : fb j b = b := by
      unfold fb
      cases j with
      | zero => simp [Kr.more] at hm
      | succ j => rfl
    rw [hj] at this
    exact this
/-- Take: one answer more. -/
theorem ktake_any {B : Nat} {w : World} {q g c j b : Nat} {l : List Nat} (h : Mst B w q l g c j b) (hl : 1 ≤ l.length) (hl2 : l.length ≤ 1000000) (v : Nat) :
    Calls Tryz.prog 187 #[.pointer (some ⟨q, 0, none⟩), .int .u64 (v : Int)] w fun e w' => e = .returned (.tuple #[]) ∧ Mst B w' q l g c (j + 1) (Kr.blk j b v) ∧ Chg q w w' := by
  cases hm : Kr.more l.length j b with
  | false =>
    have hz := Kr.act_none hm
    have ho := h.own
    rw [hz] at ho
    obtain ⟨i, rfl⟩ : ∃ i, j = i + 1 := by
      cases j with
      | zero => simp [Kr.more] at hm
      | succ i => exact ⟨i, rfl⟩
    refine (mtake_none w q _ c _ v _ _ ho).mono ?_
    rintro e w' ⟨rfl, hb⟩
    rw [Kr.blk_succ]
    refine ⟨rfl, h.took (f := ⟨0, 0, 0, 0, 0⟩) (Tn.of_below hb) ?_, Tn.of_below hb⟩
    rw [Kr.act_none (Kr.more_no hm)]
    exact ho.below hb
  | true =>
    cases j with
    | zero =>
      have ho := h.own
      rw [Kr.act_zero] at ho
      rw [Kr.blk_zero]
      by_cases hv : v = 0
      · subst hv
        refine (mtake_zero w q _ c _ _ ho).mono ?_
        rintro e w' ⟨rfl, h1, h2⟩
        refine ⟨rfl, h.took (f := ⟨0, 0, 0, 0, 0⟩) h2 ?_, h2⟩
        rw [Kr.act_none (by simp [Kr.more])]
        exact h1
      · refine (mtake_first w q _ c _ v (l.getD 0 0) _ hv (by omega) ⟨g, rfl, h.ne, h.ltg, h.wds 0 (by omega)⟩ ho).mono ?_
        rintro e w' ⟨rfl, h1, h2⟩
        refine ⟨rfl, h.took (f := ⟨0, 0, 0, 0, 0⟩) h2 ?_, h2⟩
        rw [Kr.act_store hv (by omega)]
        exact h1
    | succ i =>
      obtain ⟨hb, hi⟩ := Kr.more_succ.1 hm
      have ho := h.own
      rw [Kr.act_store hb hi] at ho
      rw [Kr.blk_succ]
      have hf : fb (i + 1) b = b := rfl
      rw [hf] at ho
      by_cases he : i + 1 = l.length
      · refine (mtake_last w q _ c b i (l.getD i 0) _ v he hl2 ho).mono ?_
        rintro e w' ⟨rfl, h1, h2⟩
        refine ⟨rfl, h.took (f := ⟨0, 0, 0, 0, 0⟩) h2 ?_, h2⟩
        rw [Kr.act_none (by cases h9 : Kr.more l.length (i + 1 + 1) b with | false => rfl | true => (have := (Kr.more_succ.1 h9).2; omega))]
        exact h1
      · refine (mtake_next w q _ c b i (l.getD i 0) (l.getD (i + 1) 0) _ v (by omega) hl2 ⟨g, rfl, h.ne, h.ltg, h.wds (i + 1) (by omega)⟩ ho).mono ?_
        rintro e w' ⟨rfl, h1, h2⟩
        refine ⟨rfl, h.took (f := ⟨0, 0, 0, 0, 0⟩) h2 ?_, h2⟩
        rw [Kr.act_store hb (by omega)]
        exact h1
/-- New. -/
def Makes (B : Nat) (l : List Nat) (w : World) (e : Ending) (w' : World) : Prop := ∃ q g c, e = .returned (.pointer (some ⟨q, 0, none⟩)) ∧ Mst B w' q l g c 0 0 ∧ Below w.heap.size w w'
set_option maxRecDepth 100000 in
set_option maxHeartbeats 4000000 in
theorem knew_any (k v : ByteArray) (w : World) (hk : k.size ≤ 16) (hv : v.size ≤ 24) : Calls Tryz.prog 62 #[.string k, .string v] w (Makes w.heap.size (Kr.bx k.data.toList v.data.toList) w) := by
  have hbd := Kr.bx_bd (k := k.data.toList) (v := v.data.toList) (by rw [ba_len]; exact hk) (by rw [ba_len]; exact hv)
  have KW := words_yes k v w hk hv
  rw [← Kr.bx_up] at KW
  generalize Kr.bx k.data.toList v.data.toList = l at *
  have HW := Lib.hid KW; clear KW
  go_enter Tryz.func62, Tryz.ntmps62
  go_wp2_with fail
  with_reducible refine HW.out.mono ?_
  rintro e w1 ⟨A, c, rfl, hs, hb, g, rfl, hg⟩
  obtain ⟨n, hn⟩ : ∃ n, n = (Kr.up l).length := ⟨_, rfl⟩
  have hs' : g < w1.heap.size ∧ ∀ i, i < l.length → w1.cell? ⟨g, i, none⟩ = some (.int .u64 ((l.getD i 0 : Nat) : Int)) := by
    rcases hs with h0 | ⟨b, off, e, hlt, hc⟩
    · have : (Kr.up l).length = 0 := by rw [h0]; rfl
      rw [Kr.up_len] at this; omega
    · injection e with e
      injection e with e1 e2
      subst e1 e2
      refine ⟨hlt, fun i hi => ?_⟩
      have := hc i (by rw [Kr.up_len]; exact hi)
      rw [Kr.up_get hi, Nat.zero_add] at this
      exact this
  rw [← hn]
  have hnl : n = l.length := by rw [hn, Kr.up_len]
  have HN := Lib.hid hnl
  have HS := Lib.hid hs'
  have HB := Lib.hid hb
  have HG := Lib.hid hg
  clear hn hs hs' hb hg HW hnl
  go_wp2
  go_ret
  have hnl := HN.out
  subst hnl
  have hb1 : Below w1.heap.size w1 (w1.alloc (.cells #[.int .i64 5, .int .u64 0, .int .i64 (l.length : Int), .int .u64 0, .int .u64 0] 35)) := (Below.refl _ _).alloc (Nat.le_refl _) _
  have hb2 : Below w1.heap.size w1 ((w1.alloc (.cells #[.int .i64 5, .int .u64 0, .int .i64 (l.length : Int), .int .u64 0, .int .u64 0] 35)).alloc (.cells #[.int .i64 5, .int .u64 0, .int .i64 (l.length : Int), .int .u64 0, .int .u64 0, .int .i64 5, .int .u64 0, .int .i64 (l.length : Int), .int .u64 0, .int .u64 0, .slice (some ⟨g, 0, none⟩) l.length c, .int .u64 0] 153)) := hb1.alloc (by simp) _
  have hz := HB.out.size
  refine ⟨w1.heap.size + 1, g, c, rfl, ⟨by omega, HG.out, by have := HS.out.1; omega, ?_, Nat.lt_of_lt_of_le HS.out.1 hb2.size, fun i hi => (hb2.cell (p := ⟨g, i, none⟩) HS.out.1).trans (HS.out.2 i hi)⟩, HB.out.trans (hb2.mono hz)⟩
  have e := heap_alloc_new (w1.alloc (.cells #[.int .i64 5, .int .u64 0, .int .i64 (l.length : Int), .int .u64 0, .int .u64 0] 35)) (.cells #[.int .i64 5, .int .u64 0, .int .i64 (l.length : Int), .int .u64 0, .int .u64 0, .int .i64 5, .int .u64 0, .int .i64 (l.length : Int), .int .u64 0, .int .u64 0, .slice (some ⟨g, 0, none⟩) l.length c, .int .u64 0] 153)
  rw [World.size_alloc] at e
  rw [Kr.act_zero]
  exact e
/-- An empty maker: of what is too long. -/
def Blank (w : World) (q : Nat) : Prop := Mk w q ⟨0, 0, 0, 0, 0⟩ ⟨0, 0, 0, 0, 0⟩ none 0 0 0
theorem knew_no (k v : ByteArray) (w : World) (hk : k.size ≤ maxLen) (hv : v.size ≤ maxLen) (h : 16 < k.size ∨ 24 < v.size) : Calls Tryz.prog 62 #[.string k, .string v] w fun e w' => e = .returned (.pointer (some ⟨w.heap.size, 0, none⟩)) ∧ Blank w' w.heap.size ∧ Below w.heap.size w w' := by
  have HW := Lib.hid (words_no k v w hk hv h)
  clear hk hv h
  go_enter Tryz.func62, Tryz.ntmps62
  go_wp2_with fail
  with_reducible refine HW.out.mono ?_
  rintro e w1 ⟨rfl, rfl⟩
  go_wp2
  go_ret
  exact ⟨rfl, heap_alloc_new w _, (Below.refl _ _).alloc (Nat.le_refl _) _⟩
theorem blank_act {w : World} {q : Nat} (h : Blank w q) : Calls Tryz.prog 186 #[.pointer (some ⟨q, 0, none⟩)] w (Gives (.tuple #[av ⟨0, 0, 0, 0, 0⟩, .bool false]) w) := mact_any w q _ _ _ _ _ _ h
theorem blank_res {w : World} {q : Nat} (h : Blank w q) : Calls Tryz.prog 63 #[.pointer (some ⟨q, 0, none⟩)] w (Same (.tuple #[.int .u64 0, .bool false]) w) := mres_any w q _ _ _ _ _ _ h
theorem blank_take {w : World} {q : Nat} (h : Blank w q) (v : Nat) : Calls Tryz.prog 187 #[.pointer (some ⟨q, 0, none⟩), .int .u64 (v : Int)] w (Gives (.tuple #[]) w) := mtake_none w q _ _ _ v _ _ h
end Go.Proofs.YtknefjigdlbacaaGreatDoor
set_option linter.unusedSimpArgs false
set_option linter.unusedVariables false
namespace Go.Proofs.YtknefjigdlbacaaGreatDoor
open Go.RowKit Go.Maps
open Mm (Mem Blk)
open Ac (A)
theorem catch_next (p q : Addr) (w : World) :
    CallsD Tryz.prog 121 #[.pointer (some p), .pointer (some q)] .returning w fun e u' w' => e = .returned (.tuple #[]) ∧ u' = .returning ∧ w' = w := by
  refine callsD_of_wpS Tryz.func121 rfl fun c₀ cs hu => ?_
  apply wpS_seq
  apply wpS_region
  simp [wpOpsS, go_sem, recoverD, hu, Tryz.ntmps121, Exit.thenS]
  refine wpS_cond (t := false) (by simp [Act.eval, Array.replicate]) ?_
  simp only [Bool.false_eq_true, if_false]
  refine wpS_of_wp (wp_skip ?_)
  cases c₀
  simp_all [bodyPostS, results, Tryz.results121]
theorem catch_take (w : World) :
    CallsD Tryz.prog 148 #[] .returning w fun e u' w' => e = .returned (.tuple #[]) ∧ u' = .returning ∧ w' = w := by
  refine callsD_of_wpS Tryz.func148 rfl fun c₀ cs hu => ?_
  apply wpS_region
  simp [wpOpsS, go_sem, recoverD, hu, Tryz.ntmps148, Exit.thenS]
  cases c₀
  simp_all [bodyPostS, results, Tryz.results148]
/-- The value of a maker. -/
abbrev rv (q : Nat) : Value := .iface 98 (.pointer (some ⟨q, 0, none⟩))
set_option maxRecDepth 100000 in
set_option maxHeartbeats 4000000 in
theorem next_some (q : Nat) (x : A) (t : Bool) (w : World) (K : ∀ w1, Below w.heap.size w w1 → Calls Tryz.prog 186 #[.pointer (some ⟨q, 0, none⟩)] w1 (Gives (.tuple #[av x, .bool t]) w1)) :
    Calls Tryz.prog 67 #[rv q] w (Gives (.tuple #[av x, .bool t]) w) := by
  have hmf : ∀ (fn : Fn) (first cap : Array Value) (w : World), (Instr.makeFunc fn first cap).run Tryz.prog w = .ok (.func fn first cap) w := fun _ _ _ _ => rfl
  have hnil : ∀ w : World, (binOp BinOp.eql 63 (rv q) .nilIface).run Tryz.prog w = .ok (.bool false) w := fun _ => by kernel_rfl
  obtain ⟨xk, xb, xc, xo, xn⟩ := x
  have HK := Lib.hid K; clear K
  go_enter_defers Tryz.func67, Tryz.ntmps67
  go_wp2_with fail
  obtain ⟨W, hW⟩ : ∃ W, W = (w.alloc (.cells #[.int .i64 0, .int .u64 0, .int .i64 0, .int .u64 0, .int .u64 0] 35)).alloc (.cells #[.bool false] 4) := ⟨_, rfl⟩
  have hb : Below w.heap.size w W := by rw [hW]; exact ((Below.refl _ w).alloc (Nat.le_refl _) _).alloc (by simp) _
  have k0 : W.heap[w.heap.size]? = some (.cells #[.int .i64 0, .int .u64 0, .int .i64 0, .int .u64 0, .int .u64 0] 35 (0, 0)) := by rw [hW, Below.heap_alloc _ _ _ (by simp)]; exact World.alloc_heap_new w _
  have k1 : W.heap[w.heap.size + 1]? = some (.cells #[.bool false] 4 (0, 0)) := by rw [hW]; have := World.alloc_heap_new (w.alloc (.cells #[.int .i64 0, .int .u64 0, .int .i64 0, .int .u64 0, .int .u64 0] 35)) (.cells #[.bool false] 4); rwa [World.size_alloc] at this
  rw [← hW]
  clear hW
  with_reducible refine (HK.out W hb).mono ?_
  rintro e w1 ⟨rfl, hb1⟩
  have j0 := (hb1.block _ (Array.getElem?_eq_some_iff.1 k0).1).trans k0
  have j1 := (hb1.block _ (Array.getElem?_eq_some_iff.1 k1).1).trans k1
  have HB := Lib.hid (hb.trans (hb1.mono hb.size)); clear hb hb1 k0 k1
  obtain ⟨n, hn⟩ : ∃ n, n = w.heap.size := ⟨_, rfl⟩
  have Hn := Lib.hid hn
  rw [← hn] at j0 j1 ⊢
  clear hn
  have c0 : w1.cell? ⟨n, 0, none⟩ = some (.int .i64 0) := by simp [World.cell?, j0]
  have c1 : w1.cell? ⟨n, 1, none⟩ = some (.int .u64 0) := by simp [World.cell?, j0]
  have c2 : w1.cell? ⟨n, 2, none⟩ = some (.int .i64 0) := by simp [World.cell?, j0]
  have c3 : w1.cell? ⟨n, 3, none⟩ = some (.int .u64 0) := by simp [World.cell?, j0]
  have c4 : w1.cell? ⟨n, 4, none⟩ = some (.int .u64 0) := by simp [World.cell?, j0]
  have c5 : w1.cell? ⟨n + 1, 0, none⟩ = some (.bool false) := by simp [World.cell?, j1]
  have f0 : w1.frozen? ⟨n, 0, none⟩ = false := by simp [World.frozen?, j0]
  have f1 : w1.frozen? ⟨n, 1, none⟩ = false := by simp [World.frozen?, j0]
  have f2 : w1.frozen? ⟨n, 2, none⟩ = false := by simp [World.frozen?, j0]
  have f3 : w1.frozen? ⟨n, 3, none⟩ = false := by simp [World.frozen?, j0]
  have f4 : w1.frozen? ⟨n, 4, none⟩ = false := by simp [World.frozen?, j0]
  have f5 : w1.frozen? ⟨n + 1, 0, none⟩ = false := by simp [World.frozen?, j1]
  have J0 := Lib.hid j0; clear j0
  have J1 := Lib.hid j1; clear j1
  go_wp2
  have hbn : Below w.heap.size w ((((((w1.setCell ⟨n, 0, none⟩ (.int .i64 xk)).setCell ⟨n, 1, none⟩ (.int .u64 (xb : Int))).setCell ⟨n, 2, none⟩ (.int .i64 xc)).setCell ⟨n, 3, none⟩ (.int .u64 (xo : Int))).setCell ⟨n, 4, none⟩ (.int .u64 (xn : Int))).setCell ⟨n + 1, 0, none⟩ (.bool t)) := by
    have e := Hn.out
    exact (((((HB.out.setCell (p := ⟨n, 0, none⟩) (by simp only; omega) _).setCell (p := ⟨n, 1, none⟩) (by simp only; omega) _).setCell (p := ⟨n, 2, none⟩) (by simp only; omega) _).setCell (p := ⟨n, 3, none⟩) (by simp only; omega) _).setCell (p := ⟨n, 4, none⟩) (by simp only; omega) _).setCell (p := ⟨n + 1, 0, none⟩) (by simp only; omega) _
  have HBN := Lib.hid hbn; clear hbn
  refine leaves_cons (f := 121) (args := #[.pointer (some ⟨n, 0, none⟩), .pointer (some ⟨n + 1, 0, none⟩)]) (by simp) (by simp [go_sem]) ?_
  refine (catch_next ⟨n, 0, none⟩ ⟨n + 1, 0, none⟩ _).mono ?_
  rintro e u' w'' ⟨rfl, rfl, rfl⟩
  simp [Leaves, settle, results, Tryz.results67, go_sem, c0, c1, c2, c3, c4, c5]
  exact ⟨rfl, HBN.out⟩
set_option maxRecDepth 100000 in
set_option maxHeartbeats 4000000 in
theorem next_nil (w : World) : Calls Tryz.prog 67 #[.nilIface] w (Gives (.tuple #[av ⟨0, 0, 0, 0, 0⟩, .bool false]) w) := by
  have hnil : ∀ w : World, (binOp BinOp.eql 63 .nilIface .nilIface).run Tryz.prog w = .ok (.bool true) w := fun _ => by kernel_rfl
  have hb : Below w.heap.size w ((w.alloc (.cells #[.int .i64 0, .int .u64 0, .int .i64 0, .int .u64 0, .int .u64 0] 35)).alloc (.cells #[.bool false] 4)) := ((Below.refl _ w).alloc (Nat.le_refl _) _).alloc (by simp) _
  have HB := Lib.hid hb; clear hb
  go_enter_defers Tryz.func67, Tryz.ntmps67
  go_wp2
  simp [bodyPostD, Leaves, settle, results, Tryz.results67, go_sem]
  exact ⟨rfl, HB.out⟩
set_option maxRecDepth 100000 in
set_option maxHeartbeats 4000000 in
theorem take_some (q : Nat) (v : Int) (w : World) (R : World → Prop) (K : Calls Tryz.prog 187 #[.pointer (some ⟨q, 0, none⟩), .int .u64 v] w fun e w' => e = .returned (.tuple #[]) ∧ R w') :
    Calls Tryz.prog 119 #[rv q, .int .u64 v] w fun e w' => e = .returned (.tuple #[]) ∧ R w' := by
  have HK := Lib.hid K; clear K
  go_enter_defers Tryz.func119, Tryz.ntmps119
  go_wp2_with fail
  with_reducible refine HK.out.mono ?_
  rintro e w1 ⟨rfl, hR⟩
  have HR := Lib.hid hR; clear hR
  go_wp2
  refine leaves_cons (f := 148) (args := #[]) (by simp) (by simp [go_sem]) ?_
  refine (catch_take _).mono ?_
  rintro e u' w'' ⟨rfl, rfl, rfl⟩
  simp [Leaves, settle, results, Tryz.results119, go_sem]
  exact HR.out
end Go.Proofs.YtknefjigdlbacaaGreatDoor
set_option linter.unusedSimpArgs false
set_option linter.unusedVariables false
namespace Go.Proofs.YtknefjigdlbacaaGreatDoor
open Go.RowKit Go.Maps
open Mm (Mem Blk)
open Ac (A)
/-- The value of a seek. -/
abbrev rvk (q : Nat) : Value := .iface 31 (.pointer (some ⟨q, 0, none⟩))
set_option maxRecDepth 100000 in
set_option maxHeartbeats 4000000 in
theorem knext_some (q : Nat) (x : A) (t : Bool) (w : World) (K : ∀ w1, Below w.heap.size w w1 → Calls Tryz.prog 9 #[.pointer (some ⟨q, 0, none⟩)] w1 (Gives (.tuple #[av x, .bool t]) w1)) :
    Calls Tryz.prog 67 #[rvk q] w (Gives (.tuple #[av x, .bool t]) w) := by
  have hmf : ∀ (fn : Fn) (first cap : Array Value) (w : World), (Instr.makeFunc fn first cap).run Tryz.prog w = .ok (.func fn first cap) w := fun _ _ _ _ => rfl
  have hnil : ∀ w : World, (binOp BinOp.eql 63 (rvk q) .nilIface).run Tryz.prog w = .ok (.bool false) w := fun _ => by kernel_rfl
  obtain ⟨xk, xb, xc, xo, xn⟩ := x
  have HK := Lib.hid K; clear K
  go_enter_defers Tryz.func67, Tryz.ntmps67
  go_wp2_with fail
  obtain ⟨W, hW⟩ : ∃ W, W = (w.alloc (.cells #[.int .i64 0, .int .u64 0, .int .i64 0, .int .u64 0, .int .u64 0] 35)).alloc (.cells #[.bool false] 4) := ⟨_, rfl⟩
  have hb : Below w.heap.size w W := by rw [hW]; exact ((Below.refl _ w).alloc (Nat.le_refl _) _).alloc (by simp) _
  have k0 : W.heap[w.heap.size]? = some (.cells #[.int .i64 0, .int .u64 0, .int .i64 0, .int .u64 0, .int .u64 0] 35 (0, 0)) := by rw [hW, Below.heap_alloc _ _ _ (by simp)]; exact World.alloc_heap_new w _
  have k1 : W.heap[w.heap.size + 1]? = some (.cells #[.bool false] 4 (0, 0)) := by rw [hW]; have := World.alloc_heap_new (w.alloc (.cells #[.int .i64 0, .int .u64 0, .int .i64 0, .int .u64 0, .int .u64 0] 35)) (.cells #[.bool false] 4); rwa [World.size_alloc] at this
  rw [← hW]
  clear hW
  with_reducible refine (HK.out W hb).mono ?_
  rintro e w1 ⟨rfl, hb1⟩
  have j0 := (hb1.block _ (Array.getElem?_eq_some_iff.1 k0).1).trans k0
  have j1 := (hb1.block _ (Array.getElem?_eq_some_iff.1 k1).1).trans k1
  have HB := Lib.hid (hb.trans (hb1.mono hb.size)); clear hb hb1 k0 k1
  obtain ⟨n, hn⟩ : ∃ n, n = w.heap.size := ⟨_, rfl⟩
  have Hn := Lib.hid hn
  rw [← hn] at j0 j1 ⊢
  clear hn
  have c0 : w1.cell? ⟨n, 0, none⟩ = some (.int .i64 0) := by simp [World.cell?, j0]
  have c1 : w1.cell? ⟨n, 1, none⟩ = some (.int .u64 0) := by simp [World.cell?, j0]
  have c2 : w1.cell? ⟨n, 2, none⟩ = some (.int .i64 0) := by simp [World.cell?, j0]
  have c3 : w1.cell? ⟨n, 3, none⟩ = some (.int .u64 0) := by simp [World.cell?, j0]
  have c4 : w1.cell? ⟨n, 4, none⟩ = some (.int .u64 0) := by simp [World.cell?, j0]
  have c5 : w1.cell? ⟨n + 1, 0, none⟩ = some (.bool false) := by simp [World.cell?, j1]
  have f0 : w1.frozen? ⟨n, 0, none⟩ = false := by simp [World.frozen?, j0]
  have f1 : w1.frozen? ⟨n, 1, none⟩ = false := by simp [World.frozen?, j0]
  have f2 : w1.frozen? ⟨n, 2, none⟩ = false := by simp [World.frozen?, j0]
  have f3 : w1.frozen? ⟨n, 3, none⟩ = false := by simp [World.frozen?, j0]
  have f4 : w1.frozen? ⟨n, 4, none⟩ = false := by simp [World.frozen?, j0]
  have f5 : w1.frozen? ⟨n + 1, 0, none⟩ = false := by simp [World.frozen?, j1]
  have J0 := Lib.hid j0; clear j0
  have J1 := Lib.hid j1; clear j1
  go_wp2
  have hbn : Below w.heap.size w ((((((w1.setCell ⟨n, 0, none⟩ (.int .i64 xk)).setCell ⟨n, 1, none⟩ (.int .u64 (xb : Int))).setCell ⟨n, 2, none⟩ (.int .i64 xc)).setCell ⟨n, 3, none⟩ (.int .u64 (xo : Int))).setCell ⟨n, 4, none⟩ (.int .u64 (xn : Int))).setCell ⟨n + 1, 0, none⟩ (.bool t)) := by
    have e := Hn.out
    exact (((((HB.out.setCell (p := ⟨n, 0, none⟩) (by simp only; omega) _).setCell (p := ⟨n, 1, none⟩) (by simp only; omega) _).setCell (p := ⟨n, 2, none⟩) (by simp only; omega) _).setCell (p := ⟨n, 3, none⟩) (by simp only; omega) _).setCell (p := ⟨n, 4, none⟩) (by simp only; omega) _).setCell (p := ⟨n + 1, 0, none⟩) (by simp only; omega) _
  have HBN := Lib.hid hbn; clear hbn
  refine leaves_cons (f := 121) (args := #[.pointer (some ⟨n, 0, none⟩), .pointer (some ⟨n + 1, 0, none⟩)]) (by simp) (by simp [go_sem]) ?_
  refine (catch_next ⟨n, 0, none⟩ ⟨n + 1, 0, none⟩ _).mono ?_
  rintro e u' w'' ⟨rfl, rfl, rfl⟩
  simp [Leaves, settle, results, Tryz.results67, go_sem, c0, c1, c2, c3, c4, c5]
  exact ⟨rfl, HBN.out⟩
set_option maxRecDepth 100000 in
set_option maxHeartbeats 4000000 in
theorem ktake_some (q : Nat) (v : Int) (w : World) (R : World → Prop) (K : Calls Tryz.prog 10 #[.pointer (some ⟨q, 0, none⟩), .int .u64 v] w fun e w' => e = .returned (.tuple #[]) ∧ R w') :
    Calls Tryz.prog 119 #[rvk q, .int .u64 v] w fun e w' => e = .returned (.tuple #[]) ∧ R w' := by
  have HK := Lib.hid K; clear K
  go_enter_defers Tryz.func119, Tryz.ntmps119
  go_wp2_with fail
  with_reducible refine HK.out.mono ?_
  rintro e w1 ⟨rfl, hR⟩
  have HR := Lib.hid hR; clear hR
  go_wp2
  refine leaves_cons (f := 148) (args := #[]) (by simp) (by simp [go_sem]) ?_
  refine (catch_take _).mono ?_
  rintro e u' w'' ⟨rfl, rfl, rfl⟩
  simp [Leaves, settle, results, Tryz.results119, go_sem]
  exact HR.out
end Go.Proofs.YtknefjigdlbacaaGreatDoor
set_option linter.unusedSimpArgs false
namespace Go.Proofs.YtknefjigdlbacaaGreatDoor
open Go.RowKit
open Ac (A)
/-- The fields of a kind, as fieldsOf answers them. -/
def Fl (k : Int) (f0 f1 f2 f3 kn : Bool) : Prop := ∀ w, Calls Tryz.prog 143 #[.int .i64 k] w (Gives (.tuple #[.agg #[.bool f0, .bool f1, .bool f2, .bool f3], .bool kn]) w)
theorem Fl.at {k : Int} {f0 f1 f2 f3 kn : Bool} (h : Fl k f0 f1 f2 f3 kn) (w : World) : Calls Tryz.prog 143 #[.int .i64 k] w (Gives (.tuple #[.agg #[.bool f0, .bool f1, .bool f2, .bool f3], .bool kn]) w) := h w
theorem ix0 (v0 v1 v2 v3 : Value) : ∀ w : World, (Instr.index 118 (.agg #[v0, v1, v2, v3]) (.int .i64 0)).run Tryz.prog w = .ok v0 w := fun _ => by kernel_rfl
theorem ix1 (v0 v1 v2 v3 : Value) : ∀ w : World, (Instr.index 118 (.agg #[v0, v1, v2, v3]) (.int .i64 1)).run Tryz.prog w = .ok v1 w := fun _ => by kernel_rfl
theorem ix2 (v0 v1 v2 v3 : Value) : ∀ w : World, (Instr.index 118 (.agg #[v0, v1, v2, v3]) (.int .i64 2)).run Tryz.prog w = .ok v2 w := fun _ => by kernel_rfl
theorem ix3 (v0 v1 v2 v3 : Value) : ∀ w : World, (Instr.index 118 (.agg #[v0, v1, v2, v3]) (.int .i64 3)).run Tryz.prog w = .ok v3 w := fun _ => by kernel_rfl
set_option maxRecDepth 100000 in
set_option maxHeartbeats 4000000 in
theorem right_none (x : A) {f0 f1 f2 f3 : Bool} (w : World) (HF : Hid (Fl x.k f0 f1 f2 f3 false)) : Calls Tryz.prog 112 #[av x] w (Gives (.bool false) w) := by
  have HB := Lib.hid (boxed_below w x)
  go_enter Tryz.func112, Tryz.ntmps112
  go_wp2_with fail
  with_reducible refine (HF.out.at _).mono ?_
  rintro e w1 ⟨rfl, hb⟩
  obtain ⟨c0, c1, c2, c3, c4⟩ := boxed_cells hb
  have hz := hb.size
  have hz1 : w.heap.size < w1.heap.size := by simp at hz; omega
  have HB1 := Lib.hid (HB.out.trans (hb.mono HB.out.size))
  clear hb hz
  go_wp2
  go_ret
  exact ⟨rfl, (HB1.out.alloc (by have := HB1.out.size; omega) _)⟩
set_option maxRecDepth 100000 in
set_option maxHeartbeats 4000000 in
theorem right_neg (x : A) {f0 f1 f2 f3 : Bool} (w : World) (HF : Hid (Fl x.k f0 f1 f2 f3 true)) (h : x.c < 0) : Calls Tryz.prog 112 #[av x] w (Gives (.bool false) w) := by
  have HB := Lib.hid (boxed_below w x)
  go_enter Tryz.func112, Tryz.ntmps112
  go_wp2_with fail
  with_reducible refine (HF.out.at _).mono ?_
  rintro e w1 ⟨rfl, hb⟩
  obtain ⟨c0, c1, c2, c3, c4⟩ := boxed_cells hb
  have hz := hb.size
  have hz1 : w.heap.size < w1.heap.size := by simp at hz; omega
  have HB1 := Lib.hid (HB.out.trans (hb.mono HB.out.size))
  clear hb hz
  go_wp2
  go_ret
  exact ⟨rfl, (HB1.out.alloc (by have := HB1.out.size; omega) _)⟩
set_option maxRecDepth 100000 in
set_option maxHeartbeats 4000000 in
theorem right_zero (x : A) {f0 f1 f2 f3 : Bool} (w : World) (HF : Hid (Fl x.k f0 f1 f2 f3 true)) (h0 : (x.c == 0) = true) (h5 : (x.k == 5) = true) (hn : 0 ≤ x.c) : Calls Tryz.prog 112 #[av x] w (Gives (.bool false) w) := by
  have HB := Lib.hid (boxed_below w x)
  go_enter Tryz.func112, Tryz.ntmps112
  go_wp2_with fail
  with_reducible refine (HF.out.at _).mono ?_
  rintro e w1 ⟨rfl, hb⟩
  obtain ⟨c0, c1, c2, c3, c4⟩ := boxed_cells hb
  have hz := hb.size
  have hz1 : w.heap.size < w1.heap.size := by simp at hz; omega
  have HB1 := Lib.hid (HB.out.trans (hb.mono HB.out.size))
  clear hb hz
  go_wp2
  go_ret
  exact ⟨rfl, (HB1.out.alloc (by have := HB1.out.size; omega) _)⟩
end Go.Proofs.YtknefjigdlbacaaGreatDoor
