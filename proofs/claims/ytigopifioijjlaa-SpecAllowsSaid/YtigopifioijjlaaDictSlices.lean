/-
  Laws for rows of pairs (two cells each), and the walks of slices.Clone and slices.Delete. By an AI agent.
-/
import Derived.Test.YtigopifioijjlaaDictFind
import Derived.Laws.CopyOwn
import Derived.Deep.RegionLaw
import Derived.Lib.AppendZerosOnto
import Derived.Lib.Overlaps
import Derived.Laws.Externs
import Derived.Lib.SliceRun
set_option linter.unusedSimpArgs false
namespace Go.Proofs.Ytigopifioijjlaa
open Go.RowKit
open Dc (Pr)
theorem info_pair : (Try.prog.info? 64).map (fun i => (i.zero, i.size, i.bytes)) = some (some (.agg #[.string ⟨#[]⟩, .string ⟨#[]⟩]), 2, 32) := by kernel_rfl
theorem size_pair : (Try.prog.info? 64).map (·.size) = some 2 := by kernel_rfl
/-- The row at g holds L now, and nothing else has changed. -/
def Lay (w w' : World) (g : Nat) (L : List Value) : Prop := w'.heap[g]? = some (.cells L.toArray 64 (0, 0)) ∧ w.grownBy w' (some g)
theorem lay_setRow {w : World} {g : Nat} {cur : Array Value} (hg : w.heap[g]? = some (.cells cur 64 (0, 0))) (L : List Value) : Lay w (w.setRow g L.toArray) g L :=
  ⟨setRow_heap w g cur _ _ _ hg, ⟨rfl, rfl, rfl, by simp [World.setRow], fun k _ hk => setRow_other w g k _ (fun e => hk (by rw [e]))⟩⟩
theorem Lay.drew {w w' : World} {g : Nat} {L : List Value} (h : Lay w.drew w' g L) : Lay w w' g L := ⟨h.1, ⟨h.2.os, h.2.tape, h.2.output, h.2.size, h.2.block⟩⟩
theorem grown_trans {a b c : World} {r : Option Nat} (h : a.grownBy b r) (k : b.grownBy c r) : a.grownBy c r :=
  ⟨k.os.trans h.os, k.tape.trans h.tape, k.output.trans h.output, Nat.le_trans h.size k.size, fun i hi hr => (k.block i (Nat.lt_of_lt_of_le hi h.size) hr).trans (h.block i hi hr)⟩
theorem lit_add (g o j : Nat) : (⟨g, o, none⟩ : Addr).add j = ⟨g, o + j, none⟩ := by unfold Addr.add; split <;> simp_all
/-- append where there is room, as one step of a region that draws. -/
theorem step_app {ops : Array Oper} {o : Oper} {a : Act} {w : World} {K : Act → World → Prop} {Q : Exit → Act → World → Prop} {E : Prop}
    (hgd : o.guard = none) (s x : Operand) (ho : o.op = Op.call { callee := Callee.builtin Builtin.append, args := #[s, x], argTypes := #[65, 65] })
    (g n cap : Nat) (hs : a.eval s = .slice (some ⟨g, 0, none⟩) n cap) (ad : Addr) (m c : Nat) (hx : a.eval x = .slice (some ad) m c)
    (cur : List Value) (hg : w.heap[g]? = some (.cells cur.toArray 64 (0, 0))) (news : List Value) (hl : news.length = m * 2)
    (hnews : ∀ j u, news[j]? = some u → w.cell? (ad.add j) = some u) (h1 : ∀ u ∈ news, u.oneCell' = true) (hroom : n + m ≤ cap) (hfit : n * 2 + news.length ≤ cur.length)
    (h : ∀ w', Hid (Lay w w' g (splice cur (n * 2) news)) → K (a.put o.dst (.slice (some ⟨g, 0, none⟩) (n + m) cap)) w') :
    if Region.wanted o (yielded ops a.tmps) = true then Oper.wp Try.prog o a w K Q else E := by
  have hw : Region.wanted o (yielded ops a.tmps) = true := by simp [Region.wanted, hgd]
  rw [if_pos hw]
  obtain ⟨i, hi, hz0, hz1, hz2⟩ := info_parts info_pair
  have hrun := run_append_room (P := Try.prog) w 65 o.type 64 i Try.underlying65 hi g n cap cur.toArray hg ad m c news (by rw [hz1]; exact hl) hnews h1 hroom (by rw [hz1]; simpa using hfit)
  rw [hz1] at hrun
  unfold Oper.wp
  simp [execOp, ho, resolve, invoke, builtin, hs, hx, hrun, Result.andThen]
  have := lay_setRow hg (splice cur (n * 2) news)
  simp only [splice] at this
  exact h _ (Lib.hid (by simpa [splice] using this))
/-- copy, of elements of two cells. -/
theorem run_copy2 (w : World) (ty : TypeId) (g o dLen dCap : Nat) (a : Addr) (sLen sCap : Nat) (cur cs : List Value)
    (hg : w.heap[g]? = some (.cells cur.toArray 64 (0, 0))) (hn : cs.length = Nat.min sLen dLen * 2)
    (hsrc : ∀ j v, cs[j]? = some v → w.cell? (a.add j) = some v) (hfit : o + cs.length ≤ cur.length) (h1 : ∀ v ∈ cs, v.oneCell' = true) :
    (Builtin.copy_ #[65, 65] ty #[.slice (some ⟨g, o, none⟩) dLen dCap, .slice (some a) sLen sCap]).run Try.prog w =
      .ok (goInt (Nat.min sLen dLen)) (w.setRow g (splice cur o cs).toArray) := by
  have hl := run_loadCells_list (P := Try.prog) w a cs hsrc
  have hst := run_storeCells_at Try.prog g o 64 cs 0 cur.toArray w hg (by simpa using hfit) h1
  obtain ⟨i, hi, hz0, hz1, hz2⟩ := info_parts info_pair
  simp [Builtin.copy_, run_underlying Try.underlying65, Builtin.lenOf, Builtin.firstCells, sizeOf, typeInfo, hi, hz1, ← hn, hl, hst, splice]
theorem step_copy2 {ops : Array Oper} {o : Oper} {a : Act} {w : World} {K : Act → World → Prop} {Q : Exit → Act → World → Prop} {E : Prop}
    (hgd : o.guard = none) (d s : Operand) (ho : o.op = .call { callee := .builtin .copy, args := #[d, s], argTypes := #[65, 65] })
    (g off dLen dCap : Nat) (hd : a.eval d = .slice (some ⟨g, off, none⟩) dLen dCap) (ad : Addr) (sLen sCap : Nat) (hs : a.eval s = .slice (some ad) sLen sCap) (cur cs : List Value)
    (hg : w.heap[g]? = some (.cells cur.toArray 64 (0, 0))) (hn : cs.length = Nat.min sLen dLen * 2)
    (hsrc : ∀ j v, cs[j]? = some v → w.cell? (ad.add j) = some v) (hfit : off + cs.length ≤ cur.length) (h1 : ∀ v ∈ cs, v.oneCell' = true)
    (h : ∀ w' v', Hid (Lay w w' g (splice cur off cs)) → K (a.put o.dst v') w') :
    if Region.wanted o (yielded ops a.tmps) = true then Oper.wp Try.prog o a w K Q else E := by
  have hw : Region.wanted o (yielded ops a.tmps) = true := by simp [Region.wanted, hgd]
  rw [if_pos hw]
  have hrun := run_copy2 w o.type g off dLen dCap ad sLen sCap cur cs hg hn hsrc hfit h1
  unfold Oper.wp
  simp [execOp, ho, resolve, invoke, builtin, hd, hs, hrun, Result.andThen]
  exact h _ _ (Lib.hid (lay_setRow hg _))
theorem wpList_copy2 {ops : Array Oper} {rest : List Oper} {o : Oper} {a : Act} {w : World} {Q : Exit → Act → World → Prop}
    (hgd : o.guard = none) (d s : Operand) (ho : o.op = .call { callee := .builtin .copy, args := #[d, s], argTypes := #[65, 65] })
    (g off dLen dCap : Nat) (hd : a.eval d = .slice (some ⟨g, off, none⟩) dLen dCap) (ad : Addr) (sLen sCap : Nat) (hs : a.eval s = .slice (some ad) sLen sCap) (cur cs : List Value)
    (hg : w.heap[g]? = some (.cells cur.toArray 64 (0, 0))) (hn : cs.length = Nat.min sLen dLen * 2)
    (hsrc : ∀ j v, cs[j]? = some v → w.cell? (ad.add j) = some v) (hfit : off + cs.length ≤ cur.length) (h1 : ∀ v ∈ cs, v.oneCell' = true)
    (h : ∀ w' v', Hid (Lay w w' g (splice cur off cs)) → wpList Try.prog ops Q rest (a.put o.dst v') w') : wpList Try.prog ops Q (o :: rest) a w := by
  refine wpList_plain hgd fun K hK => ?_
  have hrun := run_copy2 w o.type g off dLen dCap ad sLen sCap cur cs hg hn hsrc hfit h1
  unfold Oper.wp
  simp [execOp, ho, resolve, invoke, builtin, hd, hs, hrun, Result.andThen]
  exact hK _ _ (h _ _ (Lib.hid (lay_setRow hg _)))
/-- clear, of one element of two cells. -/
theorem run_clear2 (w : World) (ty : TypeId) (g o c : Nat) (cur : List Value) (hg : w.heap[g]? = some (.cells cur.toArray 64 (0, 0))) (hfit : o + 2 ≤ cur.length) :
    (Builtin.clear_ #[65] ty #[.slice (some ⟨g, o, none⟩) 1 c]).run Try.prog w = .ok (.tuple #[]) (w.setRow g (splice cur o [.string ⟨#[]⟩, .string ⟨#[]⟩]).toArray) := by
  have hst := run_storeCells_at Try.prog g o 64 [.string ⟨#[]⟩, .string ⟨#[]⟩] 0 cur.toArray w hg (by simpa using hfit) (by simp [Value.oneCell'])
  obtain ⟨i, hi, hz0, hz1, hz2⟩ := info_parts info_pair
  have hzc : (Builtin.zeroCells (Value.agg #[.string ⟨#[]⟩, .string ⟨#[]⟩]).cells 1).toList = [.string ⟨#[]⟩, .string ⟨#[]⟩] := by kernel_rfl
  simp [Builtin.clear_, run_underlying Try.underlying65, zeroValue, typeInfo, hi, hz0, hzc]
  simp only [List.length_cons, List.length_nil] at hst
  rw [hst]
  simp [splice]
theorem wpList_clear2 {ops : Array Oper} {rest : List Oper} {o : Oper} {a : Act} {w : World} {Q : Exit → Act → World → Prop}
    (hgd : o.guard = none) (x : Operand) (ho : o.op = .call { callee := .builtin .clear, args := #[x], argTypes := #[65] })
    (g off c : Nat) (hx : a.eval x = .slice (some ⟨g, off, none⟩) 1 c) (cur : List Value) (hg : w.heap[g]? = some (.cells cur.toArray 64 (0, 0))) (hfit : off + 2 ≤ cur.length)
    (h : ∀ w', Hid (Lay w w' g (splice cur off [.string ⟨#[]⟩, .string ⟨#[]⟩])) → wpList Try.prog ops Q rest (a.put o.dst (.tuple #[])) w') : wpList Try.prog ops Q (o :: rest) a w := by
  refine wpList_plain hgd fun K hK => ?_
  have hrun := run_clear2 w o.type g off c cur hg hfit
  unfold Oper.wp
  simp [execOp, ho, resolve, invoke, builtin, hx, hrun, Result.andThen]
  exact hK _ _ (h _ (Lib.hid (lay_setRow hg _)))
/-- What a change of a row leaves alone. -/
structure Sr (v v' : Value) (w w' : World) : Prop where
  os : w'.os = w.os
  tape : w'.tape = w.tape
  output : w'.output = w.output
  size : w.heap.size ≤ w'.heap.size
  block : ∀ k, k < w.heap.size → v.ownBlock ≠ some k → w'.heap[k]? = w.heap[k]?
  row : ∀ k, v'.ownBlock = some k → v.ownBlock = some k ∨ w.heap.size ≤ k
theorem Sr.of_grown {v v' : Value} {w w' : World} (h : w.grownBy w' v.ownBlock) (hr : ∀ k, v'.ownBlock = some k → v.ownBlock = some k ∨ w.heap.size ≤ k) : Sr v v' w w' :=
  ⟨h.os, h.tape, h.output, h.size, fun k hk hne => h.block k hk (fun e => hne e.symm), hr⟩
theorem nil_eq (w : World) (A : Option Addr) (n c : Nat) : (binOp .eql 65 (.slice A n c) (.slice none 0 0)).run Try.prog w = .ok (.bool A.isNone) w := Lib.run_eql_slice_nil w _ _ A n c 0 0 Try.underlying65
set_option maxHeartbeats 2000000 in
theorem clone_any (B : Nat) (v : Value) (l : List Pr) (w : World) (h : Row B 64 w v l) (hl : l.length ≤ 1000000) :
    Calls Try.prog 43 #[v] w fun e w' => ∃ v', e = .returned v' ∧ Row w.heap.size 64 w' v' l ∧ Below w.heap.size w w' := by
  have hnil := nil_eq
  rcases h.2 with ⟨rfl, h0⟩ | ⟨g, cap, cur, rfl, hb, hg, -⟩
  · have e0 : l = [] := List.eq_nil_of_length_eq_zero h0
    subst e0
    go_enter Try.func43, Try.ntmps43
    go_wp2
    go_ret
    exact ⟨_, rfl, World.ownsRow_nil _ _ _ _, Below.refl _ _⟩
  · have hlt : g < w.heap.size := (Array.getElem?_eq_some_iff.1 hg).1
    have hcs : ∀ j u, (enc l)[j]? = some u → w.cell? ((⟨g, 0, none⟩ : Addr).add j) = some u := World.ownsRow.cells h (g := g) rfl
    have Hcs := Lib.hid hcs; clear hcs
    have hle := enc_len l
    have Hle := Lib.hid hle; clear hle
    obtain ⟨i, hi, hz0, hz1, hz2⟩ := info_parts info_pair
    have Hi := Lib.hid hi; clear hi
    have Hz0 := Lib.hid hz0; clear hz0
    have Hz1 := Lib.hid hz1; clear hz1
    have Hz2 := Lib.hid hz2; clear hz2
    have r0 := World.ownsRow_lit (base := w.heap.size) (e := 64) (size := 2) w #[] 0 (Nat.le_refl _) (by decide) (by decide)
    have R0 := Lib.hid r0; clear r0
    clear h hg
    go_enter Try.func43, Try.ntmps43
    go_wp2_with (at_builtin; refine wpList_append_own _ rfl _ _ 65 rfl w.heap.size 64 i (.agg #[.string ⟨#[]⟩, .string ⟨#[]⟩]) 2 32 Try.underlying65 Hi.out Hz0.out Hz1.out Hz2.out rfl (by decide) _ 0 [] rfl R0.out ⟨g, 0, none⟩ l.length cap (enc l) rfl Hle.out ?_ (enc_one l) (by unfold maxLen; omega) (by omega) (by simp) ?_)
    · intro j u hj
      have := Hcs.out j u hj
      rw [lit_add, Nat.zero_add] at this
      exact this
    · intro v' w1 hown hgrow _
      go_wp2
      go_ret
      refine ⟨_, rfl, by simpa [Row] using hown, ?_⟩
      exact ((Below.refl _ w).alloc (Nat.le_refl _) _).grown hgrow (by simp) (fun k hk => by cases hk; exact Nat.le_refl _)
/-- The row of a map with at least one pair: its block, its cells. -/
theorem Row.open {B : Nat} {t : TypeId} {w : World} {v : Value} {l : List Pr} (h : Row B t w v l) (hp : 0 < l.length) : ∃ g cap, ∃ D : List Value, v = .slice (some ⟨g, 0, none⟩) l.length cap ∧ B ≤ g ∧ w.heap[g]? = some (.cells (enc l ++ D).toArray t (0, 0)) ∧ l.length ≤ cap ∧ cap ≤ maxLen ∧ (enc l ++ D).length = cap * 2 := by
  rcases h.2 with ⟨rfl, h0⟩ | ⟨g, cap, cur, rfl, hb, hg, h1, h2, h3, h4⟩
  · omega
  · refine ⟨g, cap, cur.toList.drop (l.length * 2), rfl, hb, ?_, h1, h2, ?_⟩
    · rw [← h4, List.take_append_drop]; simpa using hg
    · rw [← h4, List.take_append_drop]; simpa using h3
theorem Row.of {B : Nat} {t : TypeId} {w : World} {g cap : Nat} {l : List Pr} {D : List Value} (hB : B ≤ g) (hg : w.heap[g]? = some (.cells (enc l ++ D).toArray t (0, 0))) (h1 : l.length ≤ cap) (h2 : cap ≤ maxLen) (h3 : (enc l ++ D).length = cap * 2) : Row B t w (.slice (some ⟨g, 0, none⟩) l.length cap) l :=
  ⟨enc_len l, .inr ⟨g, cap, _, rfl, hB, hg, h1, h2, by simpa using h3, by simp [← enc_len l]⟩⟩
theorem cells_at {w : World} {g : Nat} {X Y Z : List Value} {t : TypeId} (hg : w.heap[g]? = some (.cells (X ++ Y ++ Z).toArray t (0, 0))) {o : Nat} (ho : o = X.length) : ∀ j u, Y[j]? = some u → w.cell? ((⟨g, o, none⟩ : Addr).add j) = some u := by
  intro j u hj
  subst ho
  have hjl := (List.getElem?_eq_some_iff.1 hj).1
  rw [lit_add, cell_of_row w g _ _ _ _ hg]
  simp only [List.getElem?_toArray, List.append_assoc]
  rw [List.getElem?_append_right (by omega), List.getElem?_append_left (by omega)]
  simpa using hj
theorem splice_at (X Y Z N : List Value) (o : Nat) (ho : o = X.length) (hN : N.length = Y.length) : splice (X ++ Y ++ Z) o N = X ++ N ++ Z := by
  subst ho
  unfold splice
  simp [hN, List.drop_append]
/-- The cells behind what is left, behind slices.Delete. -/
theorem del_cells (a c : List Value) (k x : Value) (D : List Value) : splice (splice (a ++ (k :: x :: c) ++ D) a.length c) (a.length + c.length) [.string ⟨#[]⟩, .string ⟨#[]⟩] = a ++ c ++ (.string ⟨#[]⟩ :: .string ⟨#[]⟩ :: D) := by
  have e1 : splice (a ++ (k :: x :: c) ++ D) a.length c = a ++ c ++ ((k :: x :: c).drop c.length ++ D) := by
    have h2 : (k :: x :: c) = (k :: x :: c).take c.length ++ (k :: x :: c).drop c.length := (List.take_append_drop _ _).symm
    have := splice_at a ((k :: x :: c).take c.length) ((k :: x :: c).drop c.length ++ D) c a.length rfl (by simp; omega)
    rw [← this, List.append_assoc a _ (_ ++ D), ← List.append_assoc _ _ D, ← h2]
    simp
  rw [e1]
  have hl : ((k :: x :: c).drop c.length).length = 2 := by simp; omega
  have := splice_at (a ++ c) ((k :: x :: c).drop c.length) D [.string ⟨#[]⟩, .string ⟨#[]⟩] (a.length + c.length) (by simp) (by simp [hl])
  rw [← List.append_assoc, this]
  simp
set_option maxRecDepth 100000 in
set_option maxHeartbeats 4000000 in
theorem sdelete_any (B : Nat) (v : Value) (A C : List Pr) (q : Pr) (w : World) (h : Row B 64 w v (A ++ q :: C)) (hl : (A ++ q :: C).length ≤ 1000000) :
    Calls Try.prog 41 #[v, .int .i64 (A.length : Int), .int .i64 ((A.length : Int) + 1)] w fun e w' => ∃ v', e = .returned v' ∧ Row B 64 w' v' (A ++ C) ∧ Sr v v' w w' := by
  have hmix : Try.prog.follows .mixedOrders = true := by kernel_rfl
  obtain ⟨g, cap, D, rfl, hB, hg, h1, h2, h3⟩ := h.open (by simp; omega)
  clear h
  have eL : (A ++ q :: C).length = A.length + 1 + C.length := by simp; omega
  rw [eL] at h1 hl ⊢
  have eC : enc (A ++ q :: C) ++ D = enc A ++ (.string q.1 :: .string q.2 :: enc C) ++ D := by rw [enc_append]; rfl
  rw [eC] at hg h3
  have HG := Lib.hid hg; clear hg
  have H3 := Lib.hid h3; clear h3
  clear eC eL
  have hsrc : ∀ j u, (enc C)[j]? = some u → w.cell? ((⟨g, (A.length + 1) * 2, none⟩ : Addr).add j) = some u := by
    have := HG.out
    rw [show enc A ++ (.string q.1 :: .string q.2 :: enc C) ++ D = (enc A ++ [.string q.1, .string q.2]) ++ enc C ++ D by simp] at this
    exact cells_at this (by simp [enc_len]; omega)
  have HS := Lib.hid hsrc; clear hsrc
  generalize hn : A.length = i at *
  generalize hm : C.length = m at *
  have Hn := Lib.hid hn; clear hn
  have Hm := Lib.hid hm; clear hm
  have hcap : cap ≤ 9223372036854775807 := by unfold maxLen at h2; omega
  have ew : IntKind.i64.wrap ((i : Int) + 1) = (i : Int) + 1 := by rw [IntKind.wrap_i64]; omega
  go_enter Try.func41, Try.ntmps41
  go_wp2
  have hlen2 : i * 2 + (enc C).length ≤ (enc A ++ (.string q.1 :: .string q.2 :: enc C) ++ D).length := by simp [enc_len, Hn.out]; omega
  have hroom : i + m ≤ cap := by omega
  have HC : Hid ((enc C).length = m * 2) := Lib.hid (by rw [enc_len, Hm.out])
  have f1 : (i : Int) ≤ (cap : Int) := by omega
  have f2 : ((i : Int) + 1).toNat = i + 1 := by omega
  have f3 : (0 : Int) ≤ (i : Int) + 1 := by omega
  have f4 : (i : Int) + 1 ≤ (i : Int) + 1 + (m : Int) := by omega
  by_cases hj : cap = i + 1
  · obtain rfl : m = 0 := by omega
    have hne : ∀ j u, (enc C)[j]? = some u → w.drew.cell? ((⟨g, 0, none⟩ : Addr).add j) = some u := fun j u hu => by
      have := HC.out
      have e : enc C = [] := List.eq_nil_of_length_eq_zero (by omega)
      rw [e] at hu; cases hu
    have HNE := Lib.hid hne; clear hne
    subst hj
    have f5 : (i : Int) ≤ (i : Int) + 1 := by omega
    go_region_law (
      refine step_app (g := g) (n := i) (cap := i + 1) (ad := ⟨g, 0, none⟩) (m := 0) (c := 0) (cur := enc A ++ (.string q.1 :: .string q.2 :: enc C) ++ D) (news := enc C) ?k1 (.tmp 22) (.tmp 25) ?k2 ?k3 ?k4 ?k5 HC.out HNE.out (enc_one C) hroom hlen2 ?_
      case k1 => rfl
      case k2 => rfl
      case k3 => simp [go_sem]
      case k4 => simp [go_sem]
      case k5 => exact HG.out
      intro w1 HL1)
    have HL : Hid (Lay w w1 g (splice (enc A ++ (.string q.1 :: .string q.2 :: enc C) ++ D) (i * 2) (enc C))) := Lib.hid HL1.out.drew
    clear HL1
    have hL1 : (splice (enc A ++ (.string q.1 :: .string q.2 :: enc C) ++ D) (i * 2) (enc C)).length = (i + 1) * 2 := by rw [length_splice _ _ _ hlen2]; exact H3.out
    obtain ⟨L1, HE⟩ : ∃ L1, Hid (L1 = splice (enc A ++ (.string q.1 :: .string q.2 :: enc C) ++ D) (i * 2) (enc C)) := ⟨_, Lib.hid rfl⟩
    rw [← HE.out] at HL hL1
    have HL1 := Lib.hid hL1; clear hL1
    have hfit : i * 2 + 2 ≤ L1.length := by rw [HL1.out]; omega
    have g1 : (i : Int) ≤ ((i : Int) + 1) := by omega
    have g2 : ((i : Int)).toNat = i := by omega
    have g3 : (((i : Int) + 1)).toNat = (i + 1) := by omega
    have g4 : ((i : Int) + 1) ≤ ((i + 1) : Int) := by omega
    have g5 : (i + 1) - i = 1 := by omega
    have g6 : ¬ ((i + 1) = i) := by omega
    have g7 : (0 : Int) ≤ (i : Int) := by omega
    go_wp2
    rw [run_clear2 w1 0 g (i * 2) 1 L1 HL.out.1 hfit]
    have HL2 := Lib.hid (lay_setRow HL.out.1 (splice L1 (i * 2) [.string ⟨#[]⟩, .string ⟨#[]⟩]))
    generalize w1.setRow g (splice L1 (i * 2) [.string ⟨#[]⟩, .string ⟨#[]⟩]).toArray = w2 at HL2 ⊢
    go_wp2
    go_ret
    have ef : splice L1 (i * 2) [.string ⟨#[]⟩, .string ⟨#[]⟩] = enc (A ++ C) ++ (.string ⟨#[]⟩ :: .string ⟨#[]⟩ :: D) := by
      have := del_cells (enc A) (enc C) (.string q.1) (.string q.2) D
      rw [HE.out, enc_append, ← this]
      simp [enc_len, Hn.out, Hm.out, Nat.add_mul]
    have hLay := HL2.out
    rw [ef] at hLay
    have hR : Row B 64 w2 (.slice (some ⟨g, 0, none⟩) (A ++ C).length (i + 1)) (A ++ C) := Row.of hB hLay.1 (by simp [Hn.out, Hm.out]) h2 (by
      rw [← ef, length_splice _ _ _ (by simpa using hfit), HL1.out])
    refine ⟨_, rfl, by simpa [Hn.out, Hm.out] using hR, ?_⟩
    exact Sr.of_grown (grown_trans HL.out.2 hLay.2) (fun k hk => .inl hk)
  · have hlt : i + 1 < cap := by omega
    go_region_law (
      refine step_app (g := g) (n := i) (cap := cap) (ad := ⟨g, (i + 1) * 2, none⟩) (m := m) (c := cap - (i + 1)) (cur := enc A ++ (.string q.1 :: .string q.2 :: enc C) ++ D) (news := enc C) ?k1 (.tmp 22) (.tmp 25) ?k2 ?k3 ?k4 ?k5 HC.out HS.out (enc_one C) hroom hlen2 ?_
      case k1 => rfl
      case k2 => rfl
      case k3 => simp [go_sem]
      case k4 => simp [go_sem]
      case k5 => exact HG.out
      intro w1 HL1)
    have HL : Hid (Lay w w1 g (splice (enc A ++ (.string q.1 :: .string q.2 :: enc C) ++ D) (i * 2) (enc C))) := Lib.hid HL1.out.drew
    clear HL1
    have hL1 : (splice (enc A ++ (.string q.1 :: .string q.2 :: enc C) ++ D) (i * 2) (enc C)).length = cap * 2 := by rw [length_splice _ _ _ hlen2]; exact H3.out
    obtain ⟨L1, HE⟩ : ∃ L1, Hid (L1 = splice (enc A ++ (.string q.1 :: .string q.2 :: enc C) ++ D) (i * 2) (enc C)) := ⟨_, Lib.hid rfl⟩
    rw [← HE.out] at HL hL1
    have HL1 := Lib.hid hL1; clear hL1
    have hfit : (i + m) * 2 + 2 ≤ L1.length := by rw [HL1.out]; omega
    have g1 : ((i : Int) + (m : Int)) ≤ ((i : Int) + 1 + (m : Int)) := by omega
    have g2 : (((i : Int) + (m : Int))).toNat = (i + m) := by omega
    have g3 : (((i : Int) + 1 + (m : Int))).toNat = (i + 1 + m) := by omega
    have g4 : ((i : Int) + 1 + (m : Int)) ≤ (cap : Int) := by omega
    have g5 : (i + 1 + m) - (i + m) = 1 := by omega
    have g6 : ¬ (cap = (i + m)) := by omega
    have g7 : (0 : Int) ≤ ((i : Int) + (m : Int)) := by omega
    go_wp2
    rw [run_clear2 w1 0 g ((i + m) * 2) (cap - (i + m)) L1 HL.out.1 hfit]
    have HL2 := Lib.hid (lay_setRow HL.out.1 (splice L1 ((i + m) * 2) [.string ⟨#[]⟩, .string ⟨#[]⟩]))
    generalize w1.setRow g (splice L1 ((i + m) * 2) [.string ⟨#[]⟩, .string ⟨#[]⟩]).toArray = w2 at HL2 ⊢
    go_wp2
    go_ret
    have ef : splice L1 ((i + m) * 2) [.string ⟨#[]⟩, .string ⟨#[]⟩] = enc (A ++ C) ++ (.string ⟨#[]⟩ :: .string ⟨#[]⟩ :: D) := by
      have := del_cells (enc A) (enc C) (.string q.1) (.string q.2) D
      rw [HE.out, enc_append, ← this]
      simp [enc_len, Hn.out, Hm.out, Nat.add_mul]
    have hLay := HL2.out
    rw [ef] at hLay
    have hR : Row B 64 w2 (.slice (some ⟨g, 0, none⟩) (A ++ C).length cap) (A ++ C) := Row.of hB hLay.1 (by simp [Hn.out, Hm.out]; omega) h2 (by
      rw [← ef, length_splice _ _ _ (by simpa using hfit), HL1.out])
    refine ⟨_, rfl, by simpa [Hn.out, Hm.out] using hR, ?_⟩
    exact Sr.of_grown (grown_trans HL.out.2 hLay.2) (fun k hk => .inl hk)
end Go.Proofs.Ytigopifioijjlaa
