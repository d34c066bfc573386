/-
  The walk of Words, and of the document's own. By an AI agent.
-/
import Derived.Test.YtmpoaepkfjeecaaBoxParts
import Derived.Laws.CopyOwn
import Derived.Deep.RegionLaw
import Derived.Test.YtmpoaepkfjeecaaPackWords
import Derived.Laws.AppendOwnNone
import Derived.Maps.AppendAt
namespace Go.Proofs.Ytmpoaepkfjeecaa
open Go.RowKit
/-- No box. -/
abbrev nobox : Value := .tuple #[.slice none 0 0, .bool false]
/-- What is handed back is a box's words, and true. -/
def BoxOf (xs : List Int) (w : World) (e : Ending) (w' : World) : Prop := ∃ A c, e = .returned (.tuple #[.slice A xs.length c, .bool true]) ∧ Sl .u64 w' w'.heap.size A xs ∧ Below w.heap.size w w' ∧ ∃ g, A = some ⟨g, 0, none⟩ ∧ w.heap.size ≤ g
set_option maxHeartbeats 1000000 in
theorem words_no (k v : ByteArray) (w : World) (hk : k.size ≤ maxLen) (hv : v.size ≤ maxLen) (h : 16 < k.size ∨ 24 < v.size) : Calls Try.prog 23 #[.string k, .string v] w (Same nobox w) := by
  unfold maxLen at hk hv
  by_cases h1 : 16 < k.size
  · clear h
    go_enter Try.func23, Try.ntmps23
    go_wp2
    go_ret2
    exact ⟨rfl, rfl⟩
  · have h2 : 24 < v.size := by omega
    clear h
    go_enter Try.func23, Try.ntmps23
    go_wp2
    go_ret2
    exact ⟨rfl, rfl⟩
/-- Words as values. -/
def us (l : List Int) : List Value := l.map (Value.int .u64)
theorem us_len (l : List Int) : (us l).length = l.length := by simp [us]
theorem us_one (l : List Int) : ∀ v ∈ us l, v.oneCell' = true := by
  intro v hv
  simp only [us, List.mem_map] at hv
  obtain ⟨j, -, rfl⟩ := hv
  simp [Value.oneCell']
theorem sl_us {l : List Int} {w : World} {A : Option Addr} {B : Nat} (h : Sl .u64 w B A l) (h0 : 0 < (us l).length) : ∃ ad, A = some ad ∧ ∀ j v, (us l)[j]? = some v → w.cell? (ad.add j) = some v := by
  rcases h with rfl | ⟨b, off, rfl, hb, hc⟩
  · simp [us] at h0
  · refine ⟨_, rfl, fun j v hj => ?_⟩
    have hadd : (⟨b, off, none⟩ : Addr).add j = ⟨b, off + j, none⟩ := by unfold Addr.add; split <;> simp_all
    have hjl : j < (us l).length := (List.getElem?_eq_some_iff.1 hj).1
    have hjl' := hjl
    rw [us_len] at hjl'
    rw [List.getElem?_eq_getElem hjl] at hj
    simp [us] at hj
    rw [hadd, hc _ hjl', ← hj]
/-- The six cells of a box under way. -/
def row0 (y : Int) : List Value := [.int .u64 y, .int .u64 0, .int .u64 0, .int .u64 0, .int .u64 0, .int .u64 0]
def row1 (y : Int) (xs : List Int) : List Value := splice (row0 y) 1 (us xs)
def row2 (y : Int) (xs ys : List Int) : List Value := splice (row1 y xs) (1 + xs.length) (us ys)
theorem row1_len {y : Int} {xs : List Int} (h : xs.length ≤ 2) : (row1 y xs).length = 6 := by
  unfold row1
  rw [length_splice _ _ _ (by rw [us_len]; simp [row0]; omega)]; rfl
theorem row2_head {y : Int} {xs ys : List Int} : (row2 y xs ys).take (1 + xs.length + ys.length) = us (y :: (xs ++ ys)) := by
  have e1 : (row1 y xs).take (1 + xs.length) = us (y :: xs) := by
    unfold row1 splice row0
    rw [List.take_succ_cons, List.take_zero, List.cons_append, List.nil_append, Nat.add_comm, List.take_succ_cons, List.take_append_of_le_length (by rw [us_len]; omega), List.take_of_length_le (by rw [us_len]; omega)]
    rfl
  unfold row2 splice
  rw [e1, List.take_append, us_len]
  have e2 : (us (y :: xs)).take (1 + xs.length + ys.length) = us (y :: xs) := List.take_of_length_le (by rw [us_len]; simp; omega)
  rw [e2, List.take_append_of_le_length (by rw [us_len]; simp; omega), List.take_of_length_le (by rw [us_len]; simp; omega)]
  simp [us]
/-- The words of a box lie at the head of its cells. -/
theorem row2_sl {y : Int} {xs ys : List Int} {w : World} {g : Nat} {t : TypeId} (hg : w.heap[g]? = some (.cells (row2 y xs ys).toArray t (0, 0))) : Sl .u64 w w.heap.size (some ⟨g, 0, none⟩) (y :: (xs ++ ys)) := by
  refine .inr ⟨g, 0, rfl, (Array.getElem?_eq_some_iff.1 hg).1, fun j hj => ?_⟩
  have hj' : j < 1 + xs.length + ys.length := by simp at hj; omega
  have e : (row2 y xs ys)[j]? = (us (y :: (xs ++ ys)))[j]? := by rw [← row2_head, List.getElem?_take, if_pos hj']
  have e2 : (us (y :: (xs ++ ys)))[j]? = some (.int .u64 (y :: (xs ++ ys))[j]) := by
    unfold us
    rw [List.getElem?_map, List.getElem?_eq_getElem hj]; rfl
  rw [Nat.zero_add]
  simp only [World.cell?, hg]
  rw [List.getElem?_toArray, e, e2]
  rfl
/-- Words are copied into a box. -/
theorem laid {cur : List Value} {xs : List Int} {g off n c : Nat} {A : Option Addr} {w w1 : World} {ops : Array Oper} {o : Oper} {a : Act} {K : Act → World → Prop} {Q : Exit → Act → World → Prop} {E : Prop} (hgd : o.guard = none) (d s : Operand)
    (ho : o.op = .call { callee := .builtin .copy, args := #[d, s], argTypes := #[23, 23] })
    (hd : a.eval d = .slice (some ⟨g, off, none⟩) (6 - off) (6 - off)) (hs : a.eval s = .slice A n c) (hn : n = xs.length) (hl : cur.length = 6) (hfit : off + n ≤ 6)
    (hg : w1.heap[g]? = some (.cells cur.toArray 82 (0, 0))) (hsl : Sl .u64 w1 w1.heap.size A xs) (hB : Below w.heap.size w w1) (hBg : w.heap.size ≤ g)
    (h : ∀ w', Hid (w'.heap[g]? = some (.cells (splice cur off (us xs)).toArray 82 (0, 0))) → Below w.heap.size w w' → K (a.put o.dst (.int .i64 n)) w') :
    if Region.wanted o (yielded ops a.tmps) = true then Oper.wp Try.prog o a w1 K Q else E := by
  refine step_copy_splice hgd d s 23 23 ho 22 Try.underlying23 size_u64 _ _ _ _ _ _ hd hs g off cur 82 hg (us xs) (by rw [us_len]; show _ = min n (6 - off); omega) (fun h0 => ⟨rfl, sl_us hsl h0⟩) (by rw [us_len]; omega) (us_one xs) w.heap.size w hB hBg ?_
  intro w' h1 h2
  have := h w' h1 h2
  rw [us_len, ← hn]
  exact this
theorem slice6 {o : Nat} (h1 : 1 ≤ o) (h3 : o ≤ 3) (g : Nat) : ∀ w : World, (Instr.sliceAt 82 (.pointer (some ⟨g, 0, none⟩)) (some (.int .i64 (o : Int))) none none).run Try.prog w = .ok (.slice (some ⟨g, o, none⟩) (6 - o) (6 - o)) w := by
  have h : o = 1 ∨ o = 2 ∨ o = 3 := by omega
  intro w
  rcases h with rfl | rfl | rfl <;> kernel_rfl
theorem cap6 {e : Nat} (h1 : 1 ≤ e) (h6 : e ≤ 6) (g : Nat) : ∀ w : World, (Instr.sliceAt 82 (.pointer (some ⟨g, 0, none⟩)) none (some (.int .i64 (e : Int))) (some (.int .i64 (e : Int)))).run Try.prog w = .ok (.slice (some ⟨g, 0, none⟩) e e) w := by
  have h : e = 1 ∨ e = 2 ∨ e = 3 ∨ e = 4 ∨ e = 5 ∨ e = 6 := by omega
  intro w
  rcases h with rfl | rfl | rfl | rfl | rfl | rfl <;> kernel_rfl
set_option maxRecDepth 100000 in
set_option maxHeartbeats 2000000 in
theorem words_yes (k v : ByteArray) (w : World) (hk : k.size ≤ 16) (hv : v.size ≤ 24) : Calls Try.prog 23 #[.string k, .string v] w (BoxOf (Bx.box k.data.toList v.data.toList) w) := by
  have H := fun w => head_any k v w (by unfold maxLen; omega) (by unfold maxLen; omega)
  have K := fun w => words_any k w (by omega)
  have V := fun w => words_any v w (by omega)
  have hbox : Bx.box k.data.toList v.data.toList = Bx.hd k.size v.size :: (Pk.words k.data.toList ++ Pk.words v.data.toList) := by unfold Bx.box; rw [ba_len, ba_len]
  have n1 : (Pk.words k.data.toList).length ≤ 2 := by rw [Pk.words_len, ba_len]; exact Bx.cnt_le (by omega)
  have n2 : (Pk.words v.data.toList).length ≤ 3 := by rw [Pk.words_len, ba_len]; exact Bx.cnt_le (by omega)
  rw [hbox]
  clear hbox
  generalize Pk.words k.data.toList = xs at *
  generalize Pk.words v.data.toList = ys at *
  generalize Bx.hd k.size v.size = y at *
  have HH := Lib.hid H; clear H
  have HK := Lib.hid K; clear K
  have HV := Lib.hid V; clear V
  have a1 : ¬ (16 : Int) < (k.size : Int) := by omega
  have a2 : ¬ (24 : Int) < (v.size : Int) := by omega
  go_enter Try.func23, Try.ntmps23
  go_wp2_with fail
  with_reducible refine (HH.out _).mono ?_
  rintro e w1 ⟨rfl, rfl⟩
  go_wp2_with fail
  obtain ⟨W, hW⟩ : ∃ W, W = w.alloc (.cells #[.int .u64 y, .int .u64 0, .int .u64 0, .int .u64 0, .int .u64 0, .int .u64 0] 82) := ⟨_, rfl⟩
  rw [← hW]
  have hB : Below w.heap.size w W := by rw [hW]; exact (Below.refl _ _).alloc (Nat.le_refl _) _
  have HG : Hid (W.heap[w.heap.size]? = some (.cells (row0 y).toArray 82 (0, 0))) := Lib.hid (by rw [hW]; exact heap_alloc_new w _)
  have hgW : w.heap.size < W.heap.size := by rw [hW]; simp
  clear hW
  go_region_law (first
    | (refine laid (cur := row0 y) (xs := xs) (A := A1) (n := xs.length) (c := c1) (g := w.heap.size) (off := 1) (w := w) ?k1 (.tmp 22) (.tmp 24) ?k2 ?k3 ?k4 rfl rfl ?k5 HG1.out hs1 hB1 (Nat.le_refl _) ?_
       case k1 => rfl
       case k2 => rfl
       case k3 => simp [go_sem]
       case k4 => simp [go_sem]
       case k5 => omega
       intro w2 HG2 hB2)
    | (go_simp
       with_reducible refine (HK.out _).mono ?_
       rintro e w1 ⟨A1, c1, rfl, hs1, hb1, -⟩
       have hB1 : Below w.heap.size w w1 := hB.trans ((below_then (Below.refl _ _).drew hb1).mono hB.size)
       have HG1 : Hid (w1.heap[w.heap.size]? = some (.cells (row0 y).toArray 82 (0, 0))) := Lib.hid ((hb1.block _ hgW).trans HG.out))
    | fail)
  clear HG hB hgW
  clear HG1 hB1 hs1 hb1
  have hgW : w.heap.size < w2.heap.size := (Array.getElem?_eq_some_iff.1 HG2.out).1
  have HG : Hid (w2.heap[w.heap.size]? = some (.cells (row1 y xs).toArray 82 (0, 0))) := Lib.hid HG2.out
  clear HG2
  go_wp2
  obtain ⟨o1, ho1, ho3, ho4⟩ : ∃ o1 : Nat, o1 = 1 + xs.length ∧ o1 ≤ 3 ∧ 1 ≤ o1 := ⟨_, rfl, by omega, by omega⟩
  have hq : IntKind.i64.wrap (1 + (xs.length : Int)) = (o1 : Int) := by
    rw [show 1 + (xs.length : Int) = (o1 : Int) by omega]
    simp [IntKind.wrap, IntKind.bits, IntKind.signed]; omega
  rw [hq]
  have Ho := Lib.hid ho1; clear ho1
  clear hq
  have hsl := slice6 ho4 ho3 w.heap.size
  have hB := hB2
  clear hB2
  go_region_law (first
    | (refine laid (cur := row1 y xs) (xs := ys) (A := A2) (n := ys.length) (c := c2) (g := w.heap.size) (off := o1) (w := w) ?k1 (.tmp 29) (.tmp 31) ?k2 ?k3 ?k4 rfl (row1_len n1) ?k5 HG1.out hs1 hB1 (Nat.le_refl _) ?_
       case k1 => rfl
       case k2 => rfl
       case k3 => simp [go_sem]
       case k4 => simp [go_sem]
       case k5 => omega
       intro w3 HG3 hB3)
    | (go_simp
       with_reducible refine (HV.out _).mono ?_
       rintro e w1 ⟨A2, c2, rfl, hs1, hb1, -⟩
       have hB1 : Below w.heap.size w w1 := hB.trans ((below_then (Below.refl _ _).drew hb1).mono hB.size)
       have HG1 : Hid (w1.heap[w.heap.size]? = some (.cells (row1 y xs).toArray 82 (0, 0))) := Lib.hid ((hb1.block _ hgW).trans HG.out))
    | fail)
  clear HG hB hgW
  clear HG1 hB1 hs1 hb1
  have hcut := cap6 (e := o1 + ys.length) (by omega) (by omega) w.heap.size
  rw [Int.natCast_add] at hcut
  go_wp2
  go_ret2
  refine ⟨some ⟨w.heap.size, 0, none⟩, o1 + ys.length, ?_, row2_sl (xs := xs) (ys := ys) (t := 82) (by have := HG3.out; rw [Ho.out] at this; exact this), hB3, _, rfl, Nat.le_refl _⟩
  have e : (y :: (xs ++ ys)).length = o1 + ys.length := by have := Ho.out; simp; omega
  rw [e]; rfl
/-- Words that are put behind others. -/
theorem append_us (W : World) (B : Nat) (v : Value) (xs : List Int) (ra : Option Addr) (rs : List Int) (rc : Nat) (hown : W.ownsRow B 22 1 v xs.length (us xs)) (hR : Sl .u64 W W.heap.size ra rs) (hnil : ra = none → rc = 0) (hl : xs.length + rs.length ≤ 1000) (hB : B ≤ W.heap.size) (ty : TypeId) :
    ∃ v' w', (Builtin.append_ #[23, 23] ty #[v, .slice ra rs.length rc]).run Try.prog W = .ok v' w' ∧ w'.ownsRow B 22 1 v' (xs ++ rs).length (us (xs ++ rs)) ∧ W.grownBy w' v.ownBlock := by
  obtain ⟨i0, hi, hz0, hz1, hz2⟩ := info_parts info_u64
  rcases ra with _ | a
  · have e0 : rs = [] := by
      rcases hR with h | ⟨_, _, h, _⟩
      · exact h
      · cases h
    subst e0
    rw [hnil rfl]
    exact ⟨v, W, run_append_owned_none (P := Try.prog) W B _ ty 22 i0 1 Try.underlying23 hi v _ _ hown, by simpa using hown, World.grownBy.refl W _⟩
  · have hcells : ∀ j u, (us rs)[j]? = some u → W.cell? (a.add j) = some u := by
      intro j u hj
      obtain ⟨ad, e, hc⟩ := sl_us hR (by have := (List.getElem?_eq_some_iff.1 hj).1; omega)
      cases e
      exact hc j u hj
    obtain ⟨v', w', h1, h2, h3, -⟩ := run_append_own_at (P := Try.prog) W B 23 ty 22 i0 (.int .u64 0) 1 8 Try.underlying23 hi hz0 hz1 hz2 rfl (by decide) v xs.length (us xs) hown a rs.length rc (us rs) (by rw [us_len]; omega) hcells (us_one rs) (by unfold maxLen; omega) (by omega) hB
    exact ⟨v', w', h1, by rw [List.length_append]; unfold us at *; rw [List.map_append]; exact h2, h3⟩
/-- An append whose run is known, at the operation. -/
theorem wpList_append_run {P : Program} (w : World) {ops : Array Oper} {rest : List Oper} {o : Oper} {a : Act} {Q : Exit → Act → World → Prop} (hgd : o.guard = none) (s x : Operand) (t : TypeId)
    (ho : o.op = .call { callee := .builtin .append, args := #[s, x], argTypes := #[t, t] }) (v u v' : Value) (w' : World) (hs : a.eval s = v) (hx : a.eval x = u)
    (hrun : (Builtin.append_ #[t, t] o.type #[v, u]).run P w = .ok v' w') (h : wpList P ops Q rest (a.put o.dst v') w') : wpList P ops Q (o :: rest) a w := by
  refine wpList_plain hgd fun K hK => ?_
  unfold Oper.wp
  simp [execOp, ho, resolve, invoke, builtin, hs, hx, hrun, Result.andThen]
  exact hK _ _ h
theorem boxOf_own {xs : List Int} {w w' : World} {v : Value} (hx : xs ≠ []) (hrow : w'.ownsRow w.heap.size 22 1 v xs.length (us xs)) (hb : Below w.heap.size w w') : BoxOf xs w (.returned (.tuple #[v, .bool true])) w' := by
  rcases hrow.2 with ⟨rfl, h0⟩ | ⟨g, cap, cur, rfl, hg, _⟩
  · exact absurd (List.length_eq_zero_iff.1 h0) hx
  · exact ⟨_, _, rfl, Sl.of_own hrow, hb, g, rfl, hg⟩
end Go.Proofs.Ytmpoaepkfjeecaa
