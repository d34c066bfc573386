/-
  The walk of ArenaFresh. By an AI agent.
-/
import Derived.Test.YtbokndgellfoaaaArenaBlocks
import Derived.Test.YtbokndgellfoaaaArenaAwake
import Derived.Test.YtbokndgellfoaaaArenaKeeps
import Derived.ArgAppend
import Derived.Deep.DeepCutAuto
import Derived.Deep.CutBlock
import Derived.Deep.LoopGhost
set_option linter.unusedSimpArgs false
namespace Go.Proofs.Ytbokndgellfoaaa
open Go.RowKit Go.Maps
open Mm (Mem Blk)
/-- A row of words that begins somewhere in its block. -/
def Qu (B : Nat) (w : World) (v : Value) (ss : List Nat) : Prop := ∃ g o cap cur, v = .slice (some ⟨g, o, none⟩) ss.length cap ∧ B ≤ g ∧ w.heap[g]? = some (.cells cur 27 (0, 0)) ∧ ss.length ≤ cap ∧ o + cap ≤ cur.size ∧ ∀ j x, ss[j]? = some x → cur[o + j]? = some (ku x)
theorem Qu.keep {B : Nat} {w w' : World} {v : Value} {ss : List Nat} (h : Qu B w v ss) (hk : ∀ k, v.ownBlock = some k → w'.heap[k]? = w.heap[k]?) : Qu B w' v ss := by
  obtain ⟨g, o, cap, cur, rfl, hB, hg, r⟩ := h
  exact ⟨g, o, cap, cur, rfl, hB, (hk g rfl).trans hg, r⟩
theorem Qu.lt {B : Nat} {w : World} {v : Value} {ss : List Nat} (h : Qu B w v ss) : ∀ k, v.ownBlock = some k → B ≤ k ∧ k < w.heap.size := fun k hk => by
  obtain ⟨g, o, cap, cur, rfl, hB, hg, r⟩ := h
  cases hk
  exact ⟨hB, (Array.getElem?_eq_some_iff.1 hg).1⟩
theorem Tn.qu {F F' : Nat → Prop} {w w' : World} (h : Tn F F' w w') {B : Nat} {v : Value} {ss : List Nat} (hr : Qu B w v ss) (ha : ∀ k, v.ownBlock = some k → ¬ F k) :
    Qu B w' v ss ∧ ∀ k, v.ownBlock = some k → ¬ F' k :=
  ⟨hr.keep fun k hk => h.block k (hr.lt k hk).2 (ha k hk), fun k hk e => (h.foot k e).elim (ha k hk) (fun e2 => by have := (hr.lt k hk).2; omega)⟩
theorem Qu.nil (B : Nat) (w : World) (hB : B ≤ w.heap.size) : Qu B (w.alloc (.cells #[] 27)) (.slice (some ⟨w.heap.size, 0, none⟩) 0 0) [] :=
  ⟨w.heap.size, 0, 0, #[], rfl, hB, heap_alloc_new w _, Nat.le_refl _, Nat.le_refl _, fun j x h => by simp at h⟩
/-- The first one is left out. -/
theorem Qu.tail {B g o n cap : Nat} {w : World} {x : Nat} {ss : List Nat} (h : Qu B w (.slice (some ⟨g, o, none⟩) n cap) (x :: ss)) (hn : n = ss.length + 1) :
    w.cell? ⟨g, o, none⟩ = some (ku x) ∧ 1 ≤ cap ∧ (cap = 1 → Qu B w (.slice (some ⟨g, o, none⟩) 0 0) ss) ∧ (cap ≠ 1 → Qu B w (.slice (some ⟨g, o + 1, none⟩) ss.length (cap - 1)) ss) := by
  obtain ⟨g', o', cap', cur, e, hB, hg, h1, h2, h3⟩ := h
  injection e with e1 e2 e3
  injection e1 with e1
  injection e1 with e4 e5
  subst e4; subst e5; subst e3
  simp at h1
  refine ⟨?_, by omega, fun hc => ?_, fun hc => ?_⟩
  · have := h3 0 x rfl
    simpa [World.cell?, hg] using this
  · have : ss.length = 0 := by omega
    have : ss = [] := List.length_eq_zero_iff.1 this
    subst this
    exact ⟨g, o, 0, cur, rfl, hB, hg, Nat.le_refl _, by omega, fun j x h => by simp at h⟩
  · refine ⟨g, o + 1, cap - 1, cur, rfl, hB, hg, by omega, by omega, fun j y hj => ?_⟩
    have := h3 (j + 1) y (by simpa using hj)
    rw [show o + 1 + j = o + (j + 1) by omega]
    exact this
theorem wpList_append_run {P : Program} (w : World) {ops : Array Oper} {rest : List Oper} {o : Oper} {a : Act} {Q : Exit → Act → World → Prop} (hgd : o.guard = none) (s x : Operand) (t : TypeId)
    (ho : o.op = .call { callee := .builtin .append, args := #[s, x], argTypes := #[t, t] }) (v u v' : Value) (w' : World) (hs : a.eval s = v) (hx : a.eval x = u)
    (hrun : (Builtin.append_ #[t, t] o.type #[v, u]).run P w = .ok v' w') (h : wpList P ops Q rest (a.put o.dst v') w') : wpList P ops Q (o :: rest) a w := by
  refine wpList_plain hgd fun K hK => ?_
  unfold Oper.wp
  simp [execOp, ho, resolve, invoke, builtin, hs, hx, hrun, Result.andThen]
  exact hK _ _ h
/-- One more word. -/
theorem Qu.app {B : Nat} {w : World} {v : Value} {ss : List Nat} (h : Qu B w v ss) (_hB : B ≤ w.heap.size) (x : Nat) (hl : ss.length ≤ 1000000) (ty : TypeId) :
    ∃ v' w', (Builtin.append_ #[33, 33] ty #[v, .slice (some ⟨w.heap.size, 0, none⟩) 1 1]).run Try.prog (w.alloc (.cells #[ku x] 27)) = .ok v' w' ∧ Qu B w' v' (ss ++ [x]) ∧ (w.alloc (.cells #[ku x] 27)).grownBy w' v.ownBlock ∧
      (∀ k, v'.ownBlock = some k → v.ownBlock = some k ∨ w.heap.size < k) := by
  obtain ⟨i0, hi, hz0, hz1, hz2⟩ := info_parts info_u64
  obtain ⟨g, o, cap, cur, rfl, hBg, hg, h1, h2, h3⟩ := h
  have hlt := (Array.getElem?_eq_some_iff.1 hg).1
  have hg1 : (w.alloc (.cells #[ku x] 27)).heap[g]? = some (.cells cur 27 (0, 0)) := (Below.heap_alloc w _ g hlt).trans hg
  have hnew := cell_one_new w (ku x) 27
  by_cases hr : ss.length + 1 ≤ cap
  · have hrun := run_append_room_cells (P := Try.prog) (w.alloc (.cells #[ku x] 27)) 33 ty 27 i0 Try.underlying33 hi g o ss.length cap ⟨w.heap.size, 0, none⟩ 1 1 [ku x] (by rw [hz1]; rfl) hnew (by simp [ku, Value.oneCell']) hr
      (fun j hj => by simp at hj; subst hj; simp [World.cell?, hg1, hz1]; omega) (fun j hj => by simp [World.frozen?, hg1])
    refine ⟨_, _, hrun, ⟨g, o, cap, cur.setIfInBounds (o + ss.length) (ku x), by simp, hBg, ?_, by simpa using hr, by simpa using h2, fun j y hj => ?_⟩, ?_, fun k hk => .inl hk⟩
    · rw [hz1, Nat.mul_one]
      exact heap_setc hg1 _ _
    · by_cases e : j = ss.length
      · subst e
        simp at hj
        subst hj
        rw [Array.getElem?_setIfInBounds_self_of_lt (by omega)]
      · have hj' : ss[j]? = some y := by
          have hlt := (List.getElem?_eq_some_iff.1 hj).1
          simp at hlt
          rw [List.getElem?_append_left (by omega)] at hj
          exact hj
        rw [Array.getElem?_setIfInBounds_ne (by omega)]
        exact h3 j y hj'
    · exact ⟨rfl, rfl, rfl, by simp [World.setCells, World.setCell], fun k hk hne => Below.heap_setCell _ _ _ _ (fun e => hne (by rw [e]; rfl))⟩
  · obtain ⟨v', w', hrun, hown, hgr⟩ := run_append_arg_grows (P := Try.prog) (w.alloc (.cells #[ku x] 27)) 33 ty 27 i0 (.int .u64 0) 1 8 Try.underlying33 hi hz0 hz1 hz2 rfl (by decide) ⟨g, o, none⟩ ss.length cap (us ss) (by simp [us])
      (fun j u hj => by
        simp [us] at hj
        obtain ⟨y, hy, rfl⟩ := hj
        rw [Addr.add_lit]
        have := h3 j y hy
        simpa [World.cell?, hg1] using this) ⟨w.heap.size, 0, none⟩ 1 1 [ku x] rfl hnew (by omega) (by unfold maxLen; omega) (by omega)
    refine ⟨v', w', hrun, ?_, ⟨hgr.os, hgr.tape, hgr.output, hgr.size, fun k hk _ => hgr.block k hk (by simp)⟩, fun k hk => .inr ?_⟩
    · rcases hown.2 with ⟨_, h0⟩ | ⟨g2, cap2, cur2, rfl, hB2, hg2, hc2, hm2, hs2, ht2⟩
      · omega
      · refine ⟨g2, 0, cap2, cur2, by simp, by simp at hB2; omega, hg2, by simpa using hc2, by omega, fun j y hj => ?_⟩
        have hj2 : (us ss ++ [ku x])[j]? = some (ku y) := by
          have : us ss ++ [ku x] = us (ss ++ [x]) := by simp [us]
          rw [this]
          unfold us
          rw [List.getElem?_map, hj]
          rfl
        rw [← ht2, List.getElem?_take] at hj2
        split at hj2
        · simpa using hj2
        · cases hj2
    · rcases hown.2 with ⟨_, h0⟩ | ⟨g2, cap2, cur2, rfl, hB2, hg2, r⟩
      · omega
      · cases hk
        have h9 : w.heap.size + 1 ≤ g2 := by simpa using hB2
        exact h9
theorem qu_apart {B : Nat} {w : World} {p : Nat} {S : Mem} {F : Nat → Prop} (h : Ax B w p S F) {v v' : Value} (hat : ∀ k, v'.ownBlock = some k → v.ownBlock = some k ∨ w.heap.size < k) (ha : ∀ k, v.ownBlock = some k → ¬ F k) : ∀ k, v'.ownBlock = some k → ¬ F k := fun k hk e => by
  rcases hat k hk with hat | hat
  · exact ha k hat e
  · have := (h.foot e).2; omega
theorem qu_below {B : Nat} {w w1 : World} {o : Obj} {v : Value} {ss : List Nat} (hg : (w.alloc o).grownBy w1 v.ownBlock) (hr : Qu B w v ss) (hB : B ≤ w.heap.size) : Below B w w1 :=
  ((Below.refl B w).alloc hB o).trans ⟨hg.os, hg.tape, hg.output, hg.size, fun k hk => hg.block k (by simp; omega) (fun e => by have := (hr.lt k e.symm).1; omega)⟩
/-- The first block is taken away. -/
theorem del_head {lo hi : Nat} {b : Blk} {r : List Blk} (h : Mm.Up lo hi (b :: r)) : Mm.del (b :: r) b.1 = r := by
  rw [Mm.del, if_pos rfl]
  exact Mm.used_del_none (Mm.get_none_of fun c hc => by have := (h.2.2.mem c hc).1; omega)
theorem get_head {b : Blk} {r : List Blk} : Mm.get (b :: r) b.1 = some b.2 := by rw [Mm.get, if_pos rfl]
/-- A new block, of which k cells have been written. -/
def half (S : Mem) (n k : Nat) : Mem := { S with last := S.last + 1, L := S.L ++ [(S.last + 1, List.replicate k 1 ++ List.replicate (n - k) 0)] }
theorem half_zero (S : Mem) (n : Nat) : S.alloc n = half S n 0 := by simp [Mem.alloc, half]
theorem put_snoc {l : List Blk} {n i : Nat} {v : Int} {ws : List Int} (h : Mm.get l n = none) : Mm.put (l ++ [(n, ws)]) n i v = l ++ [(n, ws.set i v)] := by
  induction l with
  | nil => simp [Mm.put]
  | cons b r ih =>
    unfold Mm.get at h
    split at h
    · cases h
    · rename_i e
      simp [Mm.put, e, ih h]
theorem half_get {S : Mem} (hG : Mm.get S.L (S.last + 1) = none) (n k : Nat) : Mm.get (half S n k).L (S.last + 1) = some (List.replicate k 1 ++ List.replicate (n - k) 0) := by
  show Mm.get (S.L ++ _) _ = _
  rw [Mm.get_append, hG]
  simp [Mm.get]
theorem half_put {S : Mem} (hG : Mm.get S.L (S.last + 1) = none) {n k : Nat} (hk : k < n) : (half S n k).put (S.last + 1) k 1 = half S n (k + 1) := by
  show ({ half S n k with L := Mm.put (half S n k).L (S.last + 1) k 1 } : Mem) = _
  have : Mm.put (half S n k).L (S.last + 1) k 1 = S.L ++ [(S.last + 1, List.replicate (k + 1) 1 ++ List.replicate (n - (k + 1)) 0)] := by
    show Mm.put (S.L ++ _) _ _ _ = _
    rw [put_snoc hG, List.set_append_right _ _ (by simp)]
    obtain ⟨m, hm⟩ : ∃ m, n - k = m + 1 := ⟨n - k - 1, by omega⟩
    rw [hm, show n - (k + 1) = m by omega, List.length_replicate, Nat.sub_self, List.replicate_succ (n := m), List.set_cons_zero, List.replicate_succ' (n := k)]
    simp
  rw [this]
  rfl
theorem half_cell {n k : Nat} (hk : k < n) : (List.replicate k (1 : Int) ++ List.replicate (n - k) 0)[k]? = some 0 := by
  rw [List.getElem?_append_right (by simp), List.length_replicate, Nat.sub_self, List.getElem?_replicate, if_pos (by omega)]
theorem half_nos (S : Mem) (n k : Nat) : nos (half S n k).L = nos S.L ++ [S.last + 1] := by simp [half, nos]
theorem half_used (S : Mem) (n k : Nat) (hk : k ≤ n) : Mm.used (half S n k).L = Mm.used S.L + n := by
  show Mm.used (S.L ++ _) = _
  rw [Mm.used_append]
  simp [Mm.used]; omega
set_option maxRecDepth 100000 in
set_option maxHeartbeats 8000000 in
theorem fresh_any (sb so len cap : Nat) (z : Nat → Int) (c : Nat) (w : World) (hl2 : len ≤ 60) (hz : ∀ j, -128 ≤ z j ∧ z j ≤ 127) (h0 : c < 256) (hsb : sb < w.heap.size)
    (hc : ∀ j, j < len → w.cell? ⟨sb, so + j, none⟩ = some (.int .i8 (z j))) :
    Calls Try.prog 5 #[.int .u8 (c : Int), .slice (some ⟨sb, so, none⟩) len cap] w (Gives (.bool true) w) := by
  have HSZ : Hid (∀ w', Below w.heap.size w w' → ∀ j, j < len → w'.cell? ⟨sb, so + j, none⟩ = some (.int .i8 (z j))) := Lib.hid fun w' hb j hj => (hb.cell (p := ⟨sb, so + j, none⟩) hsb).trans (hc j hj)
  have HZ := Lib.hid hz; clear hz hc
  have KN : Hid (Calls Try.prog 7 #[.int .i64 ((c : Int) + 1)] w fun e w' => e = .returned (.pointer (some ⟨w.heap.size + 1, 0, none⟩)) ∧ ∃ F, Ax w.heap.size w' (w.heap.size + 1) ⟨c + 1, 0, 0, []⟩ F ∧ Below w.heap.size w w' ∧ w.heap.size + 2 = w'.heap.size) := Lib.hid (new_ok (c + 1) (by omega) (by omega) w)
  have hd60 : decide ((60 : Int) < (len : Int)) = false := by simp; omega
  go_enter Try.func5, Try.ntmps5
  go_wp2_with fail
  with_reducible refine KN.out.mono ?_
  rintro e w1 ⟨rfl, F1, ha1, hb1, hs1⟩
  have hq1 := Qu.nil w.heap.size w1 (by omega)
  have hap1 : ∀ k, (Value.slice (some ⟨w1.heap.size, 0, none⟩) 0 0).ownBlock = some k → ¬ F1 k := fun k hk e => by
    cases hk; have := (ha1.foot e).2; simp at this
  have HQ1 := Lib.hid hq1; clear hq1
  have HP1 := Lib.hid hap1; clear hap1
  have HA1 := Lib.hid (ha1.below ((Below.refl _ w1).alloc (Nat.le_refl _) (.cells #[] 27)) (Nat.le_refl _)); clear ha1
  have HB1 := Lib.hid (hb1.trans ((Below.refl _ w1).alloc (by omega) (.cells #[] 27))); clear hb1 hs1
  go_wp2_with fail
  go_loopg [7, 8, 9] len (fun k v7 v8 v9 wr => ∃ (i : Nat) (S : Mem) (F : Nat → Prop) (vq : Value), v9 = .int .i64 (i : Int) ∧ v8 = .int .u64 (S.last : Int) ∧ vq = v7 ∧ k = len - i ∧ (i ≤ len ∧ S.last ≤ i ∧ S.room = c + 1) ∧ Qu w.heap.size wr vq (nos S.L) ∧ (∀ k, vq.ownBlock = some k → ¬ F k) ∧ Ax w.heap.size wr (w.heap.size + 1) S F ∧ Below w.heap.size w wr)
  case atStart => exact ⟨0, ⟨c + 1, 0, 0, []⟩, F1, _, rfl, rfl, rfl, rfl, ⟨by omega, by exact Nat.le_refl _, rfl⟩, HQ1.out, HP1.out, HA1.out, HB1.out⟩
  case round =>
    clear HQ1 HP1 HA1 HB1
    obtain ⟨i, S, F, vq, rfl, rfl, rfl, rfl, ⟨hi, hlast, hroom⟩, hq, hap, ha, hb⟩ := hrel
    have HRoom := Lib.hid hroom; clear hroom
    by_cases hlt : i < len
    · have hltZ : (i : Int) < (len : Int) := by omega
      have cz := HSZ.out _ hb i hlt
      obtain ⟨hz1, hz2⟩ := HZ.out i
      have HQ := Lib.hid hq
      have HP := Lib.hid hap; clear hap
      have HA := Lib.hid ha; clear ha
      have HB := Lib.hid hb; clear hb
      obtain ⟨zi, ezi⟩ : ∃ zi, zi = z i := ⟨_, rfl⟩
      rw [← ezi] at cz hz1 hz2
      clear ezi
      by_cases hneg : zi < 0
      · -- a block is freed, if there is one
        cases hL : S.L with
        | nil =>
          rw [hL] at hq
          obtain ⟨g, o, cap', cur, rfl, -⟩ := hq
          have HL := Lib.hid hL; clear hL
          go_wp2_with fail
          go_roundg (len - (i + 1))
          case measure => omega
          case rel => exact ⟨i + 1, S, F, _, by go_num, rfl, rfl, rfl, ⟨by omega, by omega, HRoom.out⟩, HQ.out, HP.out, HA.out, HB.out⟩
        | cons b r =>
          rw [hL] at hq
          have hup := HA.out.good.up
          rw [hL] at hup
          have hb1 : b.1 ≤ S.last := hup.2.1
          have KF := Lib.hid (free_ok HA.out (b := b.1) (by omega) (by rw [hL]; exact get_head))
          have hSL : (S.free b.1).L = r := by show Mm.del S.L b.1 = r; rw [hL]; exact del_head hup
          have HSL := Lib.hid hSL; clear hSL
          have hq0 := hq
          obtain ⟨g, o, cap', cur, rfl, -⟩ := hq
          have en : (nos (b :: r)).length = (nos r).length + 1 := by simp [nos]
          clear HQ
          rw [en] at hq0 HP ⊢
          have hq2 : Qu w.heap.size wr (.slice (some ⟨g, o, none⟩) ((nos r).length + 1) cap') (b.1 :: nos r) := hq0
          obtain ⟨cb, hcap, -, -⟩ := hq2.tail rfl
          have hcapm : (nos r).length + 1 ≤ cap' := by
            obtain ⟨g2, o2, c2, cu2, e, _, _, h1, _⟩ := hq2
            injection e with _ _ e3
            simp at h1
            omega
          unfold ku at cb
          have HQ2 := Lib.hid hq2; clear hq2 hq0
          have HL := Lib.hid hL; clear hL
          clear hup en
          obtain ⟨nr, hnr⟩ : ∃ nr, nr = (nos r).length := ⟨_, rfl⟩
          rw [← hnr] at hcapm HQ2 HP ⊢
          have Hnr := Lib.hid hnr; clear hnr
          go_wp2_with fail
          with_reducible refine KF.out.mono ?_
          rintro e w2 ⟨rfl, F2, ha2, ht2⟩
          obtain ⟨hq3, hp3⟩ := ht2.qu HQ2.out HP.out
          have HB2 := Lib.hid (HB.out.trans (ht2.below (fun k hk => (HA.out.foot hk).1) HB.out.size)); clear ht2
          have HA2 := Lib.hid ha2; clear ha2
          have HP3 := Lib.hid hp3; clear hp3
          obtain ⟨-, -, t1, t2⟩ := hq3.tail (by rw [Hnr.out])
          have T1 := Lib.hid t1; clear t1
          have T2 := Lib.hid t2; clear t2 hq3
          by_cases hc1 : cap' = 1
          · obtain rfl : nr = 0 := by omega
            subst hc1
            go_wp2_with fail
            go_roundg (len - (i + 1))
            case measure => omega
            case rel => exact ⟨i + 1, S.free b.1, F2, _, by go_num, rfl, rfl, rfl, ⟨by omega, by show S.last ≤ i + 1; omega, HRoom.out⟩, by rw [HSL.out]; exact T1.out trivial, fun k hk => HP3.out k hk, HA2.out, HB2.out⟩
          · have hcapZ : (1 : Int) < (cap' : Int) := by omega
            have hcap1 : ((cap' : Int) == 1) = false := by simp; omega
            go_wp2_with fail
            go_roundg (len - (i + 1))
            case measure => omega
            case rel => exact ⟨i + 1, S.free b.1, F2, _, by go_num, rfl, rfl, rfl, ⟨by omega, by show S.last ≤ i + 1; omega, HRoom.out⟩, by rw [HSL.out, Hnr.out]; exact T2.out hc1, fun k hk => HP3.out k hk, HA2.out, HB2.out⟩
      · -- a block is asked for
        obtain ⟨n, rfl⟩ : ∃ n : Nat, zi = (n : Int) := Int.eq_ofNat_of_zero_le (by omega)
        have hnegB : decide ((n : Int) < 0) = false := by simp
        clear hneg hz1
        have KU := Lib.hid (used_any HA.out)
        have hu1 := HA.out.good.fits
        rw [HRoom.out] at hu1
        obtain ⟨u, hu⟩ : ∃ u, u = Mm.used S.L := ⟨_, rfl⟩
        rw [← hu] at KU hu1
        by_cases hno : n < 1 ∨ c + 1 - u < n
        · have KA := Lib.hid (alloc_no HA.out (n : Int) (by rw [HRoom.out, ← hu]; omega))
          have HQK : Hid (∀ w', Below wr.heap.size wr w' → Qu w.heap.size w' vq (nos S.L)) := Lib.hid fun w' hb => HQ.out.keep fun k hk => hb.block k (HQ.out.lt k hk).2
          clear hu
          by_cases hn0 : n = 0
          · have hn1B : decide ((n : Int) < 1) = true := by simp; omega
            clear hn0
            go_wp2_with fail
            with_reducible refine KU.out.mono ?_
            rintro e w2 ⟨rfl, rfl⟩
            go_wp2_with fail
            with_reducible refine KA.out.mono ?_
            rintro e w2 ⟨rfl, hb2⟩
            have HB2 := Lib.hid hb2; clear hb2
            go_wp2_with fail
            go_roundg (len - (i + 1))
            case measure => omega
            case rel => exact ⟨i + 1, S, F, vq, by go_num, rfl, rfl, rfl, ⟨by omega, by omega, HRoom.out⟩, HQK.out _ HB2.out, HP.out, HA.out.below HB2.out (Nat.le_refl _), HB.out.trans (HB2.out.mono HB.out.size)⟩
          · have hn1B : decide ((n : Int) < 1) = false := by simp; omega
            have hn2B : decide ((c : Int) + 1 - (u : Int) < (n : Int)) = true := by simp; omega
            go_wp2_with fail
            with_reducible refine KU.out.mono ?_
            rintro e w2 ⟨rfl, rfl⟩
            go_wp2_with fail
            with_reducible refine KA.out.mono ?_
            rintro e w2 ⟨rfl, hb2⟩
            have HB2 := Lib.hid hb2; clear hb2
            go_wp2_with fail
            go_roundg (len - (i + 1))
            case measure => omega
            case rel => exact ⟨i + 1, S, F, vq, by go_num, rfl, rfl, rfl, ⟨by omega, by omega, HRoom.out⟩, HQK.out _ HB2.out, HP.out, HA.out.below HB2.out (Nat.le_refl _), HB.out.trans (HB2.out.mono HB.out.size)⟩
        · have hn1 : 1 ≤ n := by omega
          have hn2 : n ≤ c + 1 - u := by omega
          have hnew := Mm.new_get S HA.out.good
          have KA := Lib.hid (alloc_ok HA.out HB.out.size n hn1 (by rw [HRoom.out, ← hu]; exact hn2) (by omega))
          rw [half_zero] at KA
          have KS : Hid (∀ F w', Ax w.heap.size w' (w.heap.size + 1) (half S n 0) F → Calls Try.prog 13 #[.pointer (some ⟨w.heap.size + 1, 0, none⟩), .int .u64 ((S.last : Int) + 1)] w' (Same (.int .i64 (n : Int)) w')) := Lib.hid fun F w' h => by
            have := size_any h (b := S.last + 1) (by omega)
            rw [show ((S.last + 1 : Nat) : Int) = (S.last : Int) + 1 by omega, show szOf (half S n 0) (S.last + 1) = n by unfold szOf; rw [half_get hnew]; simp] at this
            exact this
          have KU2 : Hid (∀ F w', Ax w.heap.size w' (w.heap.size + 1) (half S n 0) F → Calls Try.prog 11 #[.pointer (some ⟨w.heap.size + 1, 0, none⟩)] w' (Same (.int .i64 ((u : Int) + (n : Int))) w')) := Lib.hid fun F w' h => by
            have := used_any h
            rw [half_used S n 0 (Nat.zero_le _), ← hu, show ((u + n : Nat) : Int) = (u : Int) + (n : Int) by omega] at this
            exact this
          have KL : Hid (∀ q F w', q < n → Ax w.heap.size w' (w.heap.size + 1) (half S n q) F → Calls Try.prog 23 #[.pointer (some ⟨w.heap.size + 1, 0, none⟩), .int .u64 ((S.last : Int) + 1), .int .i64 (q : Int)] w' (Same (.tuple #[.int .u64 0, .int .i64 0]) w')) := Lib.hid fun q F w' hq h => by
            have := load_ok h (b := S.last + 1) (by omega) (half_get hnew n q) q (half_cell hq)
            rw [show ((S.last + 1 : Nat) : Int) = (S.last : Int) + 1 by omega] at this
            exact this
          have KT : Hid (∀ q F w', q < n → Ax w.heap.size w' (w.heap.size + 1) (half S n q) F → Calls Try.prog 16 #[.pointer (some ⟨w.heap.size + 1, 0, none⟩), .int .u64 ((S.last : Int) + 1), .int .i64 (q : Int), .int .u64 1] w' (Turns (.int .i64 0) w.heap.size (w.heap.size + 1) (half S n (q + 1)) F w')) := Lib.hid fun q F w' hq h => by
            have := store_ok h (b := S.last + 1) (by omega) (half_get hnew n q) q (by simp; omega) 1
            rw [show ((S.last + 1 : Nat) : Int) = (S.last : Int) + 1 by omega, half_put hnew hq] at this
            exact this
          have HH : Hid (nos (half S n n).L = nos S.L ++ [S.last + 1]) := Lib.hid (half_nos S n n)
          have HNl : Hid ((nos S.L).length ≤ 65536) := Lib.hid (nos_len HA.out.good)
          clear hu hnew
          have hn1B : decide ((n : Int) < 1) = false := by simp; omega
          have hn2B : decide ((c : Int) + 1 - (u : Int) < (n : Int)) = false := by simp; omega
          have hb0 : ((S.last : Int) + 1 == 0) = false := by simp; omega
          have hsub : ((c : Int) + 1 - ((u : Int) + (n : Int)) != (c : Int) + 1 - (u : Int) - (n : Int)) = false := by simp; omega
          have hn127 : n ≤ 127 := by omega
          go_wp2_with fail
          with_reducible refine KU.out.mono ?_
          rintro e w2 ⟨rfl, rfl⟩
          go_wp2_with fail
          with_reducible refine KA.out.mono ?_
          rintro e w3 ⟨rfl, F3, ha3, ht3⟩
          obtain ⟨hq3, hp3⟩ := ht3.qu HQ.out HP.out
          have HB3 := Lib.hid (HB.out.trans (ht3.below (fun k hk => (HA.out.foot hk).1) HB.out.size)); clear ht3
          have HA3 := Lib.hid ha3; clear ha3
          have HQ3 := Lib.hid hq3; clear hq3
          have HP3 := Lib.hid hp3; clear hp3
          go_wp2_with fail
          with_reducible refine (KS.out _ _ HA3.out).mono ?_
          rintro e w4 ⟨rfl, rfl⟩
          go_wp2_with fail
          with_reducible refine (KU2.out _ _ HA3.out).mono ?_
          rintro e w4 ⟨rfl, rfl⟩
          go_wp2_with fail
          go_loopg [13] n (fun k v wx => ∃ (q : Nat) (F : Nat → Prop), v = .int .i64 (q : Int) ∧ k = n - q ∧ q ≤ n ∧ Qu w.heap.size wx vq (nos S.L) ∧ (∀ k, vq.ownBlock = some k → ¬ F k) ∧ Ax w.heap.size wx (w.heap.size + 1) (half S n q) F ∧ Below w.heap.size w wx)
          case atStart => exact ⟨0, F3, rfl, rfl, Nat.zero_le _, HQ3.out, HP3.out, HA3.out, HB3.out⟩
          case round =>
            clear HQ3 HP3 HA3 HB3 KS KU2 KA KU
            obtain ⟨q, F5, rfl, rfl, hqn, hq5, hp5, ha5, hb5⟩ := hrel
            have HQ5 := Lib.hid hq5; clear hq5
            have HP5 := Lib.hid hp5; clear hp5
            have HA5 := Lib.hid ha5; clear ha5
            have HB5 := Lib.hid hb5; clear hb5
            by_cases hql : q < n
            · have hqZ : (q : Int) < (n : Int) := by omega
              have K1 := Lib.hid (KL.out q _ _ hql HA5.out)
              have K2 := Lib.hid (KT.out q _ _ hql HA5.out)
              go_wp2_with fail
              with_reducible refine K1.out.mono ?_
              rintro e w6 ⟨rfl, rfl⟩
              go_wp2_with fail
              with_reducible refine K2.out.mono ?_
              rintro e w7 ⟨rfl, F7, ha7, ht7⟩
              obtain ⟨hq7, hp7⟩ := ht7.qu HQ5.out HP5.out
              have HB7 := Lib.hid (HB5.out.trans (ht7.below (fun k hk => (HA5.out.foot hk).1) HB5.out.size)); clear ht7
              have HA7 := Lib.hid ha7; clear ha7
              have HQ7 := Lib.hid hq7; clear hq7
              have HP7 := Lib.hid hp7; clear hp7
              go_wp2_with fail
              go_roundg (n - (q + 1))
              case measure => omega
              case rel => exact ⟨q + 1, F7, by go_num, rfl, by omega, HQ7.out, HP7.out, HA7.out, HB7.out⟩
            · obtain rfl : q = n := by omega
              obtain ⟨v', w', hrun, hq', hg, hat⟩ := HQ5.out.app HB5.out.size (S.last + 1) (by have := HNl.out; omega) 33
              have eku : ku (S.last + 1) = .int .u64 ((S.last : Int) + 1) := rfl
              rw [eku] at hrun hg
              have HQ' := Lib.hid hq'; clear hq'
              have HR := Lib.hid hrun; clear hrun
              have HP' := Lib.hid (qu_apart HA5.out hat HP5.out); clear hat
              have HA' : Hid (Ax w.heap.size w' (w.heap.size + 1) (half S q q) F5) := Lib.hid (HA5.out.app hg HP5.out)
              have HB' := Lib.hid (HB5.out.trans (qu_below hg HQ5.out HB5.out.size)); clear hg eku
              go_wp2_with (at_builtin; refine wpList_append_run _ rfl _ _ 33 rfl vq _ v' w' rfl rfl HR.out ?_)
              go_roundg (len - (i + 1))
              case measure => omega
              case rel => exact ⟨i + 1, half S q q, F5, v', by go_num, by show Value.int .u64 ((S.last : Int) + 1) = .int .u64 ((S.last + 1 : Nat) : Int); go_num, rfl, rfl, ⟨by omega, by show S.last + 1 ≤ i + 1; omega, HRoom.out⟩, by rw [HH.out]; exact HQ'.out, HP'.out, HA'.out, HB'.out⟩
    · obtain rfl : i = len := by omega
      have hroomS : S.last ≤ 1000000000000 := by omega
      have KB := Lib.hid (blocks_any ha hroomS)
      have HB := Lib.hid hb; clear hb
      obtain ⟨g, o, cap', cur, rfl, -⟩ := hq
      clear ha hap
      go_wp2_with fail
      with_reducible refine KB.out.mono ?_
      rintro e w2 ⟨v, ts, rfl, ht, hr, -, hb2⟩
      have HB2 := Lib.hid (HB.out.trans (hb2.mono HB.out.size)); clear hb2
      obtain ⟨va, vc, ev⟩ : ∃ a c, v = .slice a ts.length c := by
        rcases hr.2 with ⟨e1, e2⟩ | ⟨g2, c2, cur2, e1, _⟩
        · exact ⟨none, 0, by rw [e1, e2]⟩
        · exact ⟨_, _, e1⟩
      subst ev
      subst ht
      clear hr
      go_wp2_with fail
      with_reducible refine (awake_any _).mono ?_
      rintro e w3 ⟨rfl, hb3⟩
      go_wp2_with fail
      go_ret
      exact ⟨rfl, HB2.out.trans (hb3.mono HB2.out.size)⟩
end Go.Proofs.Ytbokndgellfoaaa
