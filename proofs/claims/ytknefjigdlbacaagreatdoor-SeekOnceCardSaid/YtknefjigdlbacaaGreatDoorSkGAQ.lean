/-
  Several texts in one: The walks of Words, and of the document's own Words; The walk of Words, and of the document's own; A reader as a block; its Act and New; its words: add, whole, pair. By an AI agent.
-/
import Derived.Test.YtknefjigdlbacaaGreatDoorSkGAP
import Derived.Laws.IdiomStrings
import Derived.Test.YtknefjigdlbacaaGreatDoorSkGAO
import Derived.Laws.CopyOwn
import Derived.Deep.RegionLaw
import Derived.Laws.AppendOwnNone
import Derived.Maps.AppendAt
import Derived.Test.YtknefjigdlbacaaGreatDoorSkGAG
import Derived.Test.YtknefjigdlbacaaGreatDoorSkGAM
import Derived.BigQuiet
namespace Go.Proofs.YtknefjigdlbacaaGreatDoor
open Go.RowKit
theorem ba_bv {s : ByteArray} {k : Nat} (h : k < s.size) : (s[k].toNat : Int) = Pk.bv s.data.toList k := by
  rw [Pk.bv_in (by rw [ba_len]; exact h), ba_getElem s k h]
/-- What is handed back is a list of words. -/
def WordsOf (xs : List Int) (w : World) (e : Ending) (w' : World) : Prop := ∃ A c, e = .returned (.slice A xs.length c) ∧ Sl .u64 w' w'.heap.size A xs ∧ Below w.heap.size w w' ∧ (A = none → c = 0)
theorem wordsOf_of {xs : List Int} {n B : Nat} {w w' : World} {v : Value} (hn : n = xs.length) (hrow : w'.ownsRow B 22 1 v n (xs.map (Value.int .u64))) (hb : Below w.heap.size w w') : WordsOf xs w (.returned v) w' := by
  subst hn
  rcases hrow.2 with ⟨rfl, h0⟩ | ⟨g, cap, cur, rfl, _⟩
  · refine ⟨none, 0, by rw [h0], .inl (List.length_eq_zero_iff.1 h0), hb, fun _ => rfl⟩
  · exact ⟨_, _, rfl, Sl.of_own hrow, hb, fun h => nomatch h⟩
theorem own_below {B : Nat} {t : TypeId} {k : Nat} {v : Value} {n : Nat} {xs : List Value} {w w' : World} (h : w.ownsRow B t k v n xs) (hb : Below w.heap.size w w') : w'.ownsRow B t k v n xs := by
  refine ⟨h.1, ?_⟩
  rcases h.2 with h0 | ⟨g, cap, cur, h1, h2, h3, h4⟩
  · exact .inl h0
  · exact .inr ⟨g, cap, cur, h1, h2, (hb.block g (Array.getElem?_eq_some_iff.1 h3).1).trans h3, h4⟩
/-- The bytes of a text in memory of their own. -/
theorem bytes_any (s : ByteArray) (w : World) : ∃ C W, (convert 9 67 (.string s)).run Tryz.prog w = .ok (.slice (some ⟨w.heap.size, 0, none⟩) s.size C) W ∧ s.size ≤ C ∧ Below w.heap.size w W ∧ w.heap.size < W.heap.size ∧
    ∀ j, j < s.data.toList.length → W.cell? ⟨w.heap.size, j, none⟩ = some (.int .u8 (Pk.bv s.data.toList j)) := by
  refine ⟨_, _, run_bytes_of_string (P := Tryz.prog) w 9 67 5 s Tryz.underlying9 Tryz.underlying67 Tryz.underlying5, grownCap_ge _ _ _ _, ((Below.refl _ _).drew).alloc (Nat.le_refl _) _, ?_, fun j hj => ?_⟩
  · show w.heap.size < (w.heap.push _).size
    simp
  · have hj' : j < s.size := by rw [← ba_len]; exact hj
    have := World.cell?_alloc_mark w.drew (bytesRow s (grownCap w s.size 0 5)) 5 ((bytesRow s (grownCap w s.size 0 5)).size, (bytesRow s (grownCap w s.size 0 5)).size + 1) j
    rw [← ba_bv hj']
    refine Eq.trans this ?_
    have hjd : j < s.data.size := hj'
    simp [bytesRow, Array.getElem?_append]
    rw [if_pos hj', Array.getElem?_eq_getElem hjd]
    rfl
set_option maxRecDepth 100000 in
set_option maxHeartbeats 2000000 in
theorem words_any (s : ByteArray) (w : World) (hs : s.size ≤ 1099511627776) : Calls Tryz.prog 147 #[.string s] w (WordsOf (Pk.words s.data.toList) w) := by
  obtain ⟨i0, hi, hz0, hz1, hz2⟩ := info_parts info_u64
  have Hz0 := Lib.hid hz0; clear hz0
  have Hz1 := Lib.hid hz1; clear hz1
  have Hz2 := Lib.hid hz2; clear hz2
  have Hi := Lib.hid hi; clear hi
  obtain ⟨C, W, hconv, hC, hBW, hW, hcell⟩ := bytes_any s w
  have Hcell := Lib.hid hcell; clear hcell
  have M := fun w => many_any (s.size : Int) w (by omega) (by omega)
  rw [← Pk.cnt_many] at M
  obtain ⟨m, hm⟩ : ∃ m, m = Pk.cnt s.size := ⟨_, rfl⟩
  rw [← hm] at M
  have hm1 : s.size ≤ 8 * m ∧ 8 * m ≤ s.size + 7 := by rw [hm]; unfold Pk.cnt; omega
  have hw : Pk.words s.data.toList = Pk.wordsTo s.data.toList m := by unfold Pk.words; rw [ba_len, ← hm]
  rw [hw]
  clear hw hm
  have HM := Lib.hid M; clear M
  go_enter Tryz.func147, Tryz.ntmps147
  go_wp2_with fail
  with_reducible refine (HM.out _).mono ?_
  rintro e w1 ⟨rfl, rfl⟩
  go_wp2_with (with_reducible refine wpList_make_own _ rfl _ _ 29 rfl W.heap.size 22 i0 (.int .u64 0) 1 Tryz.underlying29 Hi.out Hz0.out Hz1.out .i64 .i64 (m : Int) m rfl rfl ?m1 ?m2 ?m3 ?m4 ?_)
  case m1 => rfl
  case m2 => have := Hz2.out; rw [this]; omega
  case m3 => unfold maxLen; omega
  case m4 => omega
  intro w1 hown hgrow
  have hB1 : Below W.heap.size W w1 := (Below.refl _ _).grown hgrow (Nat.le_refl _) (fun k e => by cases e)
  clear hgrow
  obtain ⟨v0, hv0⟩ : ∃ v0, v0 = Value.slice (some ⟨W.heap.size, 0, none⟩) 0 m := ⟨_, rfl⟩
  rw [← hv0] at hown ⊢
  clear hv0
  go_wp2
  go_loopw [4, 5] (fun v i wr => ∃ k n : Nat, n = 8 * k ∧ k ≤ m ∧ i = .int .i64 (n : Int) ∧ wr.ownsRow W.heap.size 22 1 v k ((Pk.wordsTo s.data.toList k).map (Value.int .u64)) ∧ Below W.heap.size W wr)
    (fun _ i _ => 8 * m - (intOf i).toNat)
  case atStart => exact ⟨0, 0, rfl, by omega, rfl, hown, hB1⟩
  case round =>
    clear hown hB1
    obtain ⟨k, n, hn, hk, rfl, hown, hB⟩ := hrel
    by_cases hlt : n < s.size
    · have hbs : w.heap.size < wr.heap.size := Nat.lt_of_lt_of_le hW hB.size
      have WO : Calls Tryz.prog 163 #[.slice (some ⟨w.heap.size, 0, none⟩) s.size C, .int .i64 (n : Int)] wr (Gives (.int .u64 (Pk.wto s.data.toList n 8)) wr) := by
        have := wordOf_any s.data.toList n w.heap.size C wr (by rw [ba_len]; exact hs) (by rw [ba_len]; exact hC) (by rw [ba_len]; exact hlt) hbs (fun j hj => (hB.cell (p := ⟨w.heap.size, j, none⟩) hW).trans (Hcell.out j hj))
        rwa [ba_len] at this
      have hnx : Pk.wordsTo s.data.toList (k + 1) = Pk.wordsTo s.data.toList k ++ [Pk.wto s.data.toList n 8] := by rw [Pk.wordsTo_succ, hn]
      have Hnx := Lib.hid hnx; clear hnx
      have HWO := Lib.hid WO; clear WO
      have Hn := Lib.hid hn; clear hn
      go_wp2_with fail
      with_reducible refine HWO.out.mono ?_
      rintro e w2 ⟨rfl, hb2⟩
      have hB2 : Below W.heap.size W w2 := hB.trans (hb2.mono hB.size)
      have hown2 : w2.ownsRow W.heap.size 22 1 _ k ((Pk.wordsTo s.data.toList k).map (Value.int .u64)) := own_below hown hb2
      clear hown hb2
      go_wp2_with (at_builtin; refine wpList_append_own _ rfl _ _ 29 rfl W.heap.size 22 i0 (.int .u64 0) 1 8 Tryz.underlying29 Hi.out Hz0.out Hz1.out Hz2.out rfl (by decide) _ _ _ rfl (hown2.alloc _) ⟨_, 0, none⟩ 1 1 [.int .u64 (Pk.wto s.data.toList n 8)] rfl rfl ?c1 ?c2 ?c3 ?c4 ?c5 ?_)
      case c1 => exact cell_one_new _ _ _
      case c2 => simp [Value.oneCell']
      case c3 => unfold maxLen; omega
      case c4 => omega
      case c5 => have := hB2.size; simp; omega
      intro v' w3 hown' hgrow _
      have hB3 : Below W.heap.size W w3 := (hB2.alloc hB2.size _).grown hgrow (by have := hB2.size; simp; omega) (fun j e => (hown2.lt j e).1)
      have hown3 : w3.ownsRow W.heap.size 22 1 v' (k + 1) ((Pk.wordsTo s.data.toList (k + 1)).map (Value.int .u64)) := by
        rw [Hnx.out]; simpa using hown'
      clear hown' hgrow hown2
      go_wp2
      go_roundw
      case rel => exact ⟨k + 1, n + 8, by have := Hn.out; omega, by have := Hn.out; omega, by go_num, hown3, hB3⟩
      case measure => have := Hn.out; simp [intOf]; omega
    · obtain rfl : k = m := by omega
      go_wp2
      go_ret
      exact wordsOf_of (Pk.wordsTo_len _ _).symm hown (hBW.trans (hB.mono hBW.size))
end Go.Proofs.YtknefjigdlbacaaGreatDoor
namespace Go.Proofs.YtknefjigdlbacaaGreatDoor
open Go.RowKit
/-- No box. -/
abbrev nobox : Value := .tuple #[.slice none 0 0, .bool false]
/-- What is handed back is a box's words, and true. -/
def BoxOf (xs : List Int) (w : World) (e : Ending) (w' : World) : Prop := ∃ A c, e = .returned (.tuple #[.slice A xs.length c, .bool true]) ∧ Sl .u64 w' w'.heap.size A xs ∧ Below w.heap.size w w' ∧ ∃ g, A = some ⟨g, 0, none⟩ ∧ w.heap.size ≤ g
set_option maxHeartbeats 1000000 in
theorem words_no (k v : ByteArray) (w : World) (hk : k.size ≤ maxLen) (hv : v.size ≤ maxLen) (h : 16 < k.size ∨ 24 < v.size) : Calls Tryz.prog 118 #[.string k, .string v] w (Same nobox w) := by
  unfold maxLen at hk hv
  by_cases h1 : 16 < k.size
  · clear h
    go_enter Tryz.func118, Tryz.ntmps118
    go_wp2
    go_ret2
    exact ⟨rfl, rfl⟩
  · have h2 : 24 < v.size := by omega
    clear h
    go_enter Tryz.func118, Tryz.ntmps118
    go_wp2
    go_ret2
    exact ⟨rfl, rfl⟩
/-- Words as values. -/
def us (l : List Int) : List Value := l.map (Value.int .u64)
theorem us_len (l : List Int) : (us l).length = l.length := by simp [us]
theorem us_one (l : List Int) : ∀ v ∈ us l, v.oneCell' = true := by
  intro v hv
  simp only [us, List.mem_map] at hv
  obtain ⟨j, -, rfl⟩ := hv
  simp [Value.oneCell']
theorem sl_us {l : List Int} {w : World} {A : Option Addr} {B : Nat} (h : Sl .u64 w B A l) (h0 : 0 < (us l).length) : ∃ ad, A = some ad ∧ ∀ j v, (us l)[j]? = some v → w.cell? (ad.add j) = some v := by
  rcases h with rfl | ⟨b, off, rfl, hb, hc⟩
  · simp [us] at h0
  · refine ⟨_, rfl, fun j v hj => ?_⟩
    have hadd : (⟨b, off, none⟩ : Addr).add j = ⟨b, off + j, none⟩ := by unfold Addr.add; split <;> simp_all
    have hjl : j < (us l).length := (List.getElem?_eq_some_iff.1 hj).1
    have hjl' := hjl
    rw [us_len] at hjl'
    rw [List.getElem?_eq_getElem hjl] at hj
    simp [us] at hj
    rw [hadd, hc _ hjl', ← hj]
/-- The six cells of a box under way. -/
def row0 (y : Int) : List Value := [.int .u64 y, .int .u64 0, .int .u64 0, .int .u64 0, .int .u64 0, .int .u64 0]
def row1 (y : Int) (xs : List Int) : List Value := splice (row0 y) 1 (us xs)
def row2 (y : Int) (xs ys : List Int) : List Value := splice (row1 y xs) (1 + xs.length) (us ys)
theorem row1_len {y : Int} {xs : List Int} (h : xs.length ≤ 2) : (row1 y xs).length = 6 := by
  unfold row1
  rw [length_splice _ _ _ (by rw [us_len]; simp [row0]; omega)]; rfl
theorem row2_head {y : Int} {xs ys : List Int} : (row2 y xs ys).take (1 + xs.length + ys.length) = us (y :: (xs ++ ys)) := by
  have e1 : (row1 y xs).take (1 + xs.length) = us (y :: xs) := by
    unfold row1 splice row0
    rw [List.take_succ_cons, List.take_zero, List.cons_append, List.nil_append, Nat.add_comm, List.take_succ_cons, List.take_append_of_le_length (by rw [us_len]; omega), List.take_of_length_le (by rw [us_len]; omega)]
    rfl
  unfold row2 splice
  rw [e1, List.take_append, us_len]
  have e2 : (us (y :: xs)).take (1 + xs.length + ys.length) = us (y :: xs) := List.take_of_length_le (by rw [us_len]; simp; omega)
  rw [e2, List.take_append_of_le_length (by rw [us_len]; simp; omega), List.take_of_length_le (by rw [us_len]; simp; omega)]
  simp [us]
/-- The words of a box lie at the head of its cells. -/
theorem row2_sl {y : Int} {xs ys : List Int} {w : World} {g : Nat} {t : TypeId} (hg : w.heap[g]? = some (.cells (row2 y xs ys).toArray t (0, 0))) : Sl .u64 w w.heap.size (some ⟨g, 0, none⟩) (y :: (xs ++ ys)) := by
  refine .inr ⟨g, 0, rfl, (Array.getElem?_eq_some_iff.1 hg).1, fun j hj => ?_⟩
  have hj' : j < 1 + xs.length + ys.length := by simp at hj; omega
  have e : (row2 y xs ys)[j]? = (us (y :: (xs ++ ys)))[j]? := by rw [← row2_head, List.getElem?_take, if_pos hj']
  have e2 : (us (y :: (xs ++ ys)))[j]? = some (.int .u64 (y :: (xs ++ ys))[j]) := by
    unfold us
    rw [List.getElem?_map, List.getElem?_eq_getElem hj]; rfl
  rw [Nat.zero_add]
  simp only [World.cell?, hg]
  rw [List.getElem?_toArray, e, e2]
  rfl
/-- Words are copied into a box. -/
theorem laid {cur : List Value} {xs : List Int} {g off n c : Nat} {A : Option Addr} {w w1 : World} {ops : Array Oper} {o : Oper} {a : Act} {K : Act → World → Prop} {Q : Exit → Act → World → Prop} {E : Prop} (hgd : o.guard = none) (d s : Operand)
    (ho : o.op = .call { callee := .builtin .copy, args := #[d, s], argTypes := #[29, 29] })
    (hd : a.eval d = .slice (some ⟨g, off, none⟩) (6 - off) (6 - off)) (hs : a.eval s = .slice A n c) (hn : n = xs.length) (hl : cur.length = 6) (hfit : off + n ≤ 6)
    (hg : w1.heap[g]? = some (.cells cur.toArray 188 (0, 0))) (hsl : Sl .u64 w1 w1.heap.size A xs) (hB : Below w.heap.size w w1) (hBg : w.heap.size ≤ g)
    (h : ∀ w', Hid (w'.heap[g]? = some (.cells (splice cur off (us xs)).toArray 188 (0, 0))) → Below w.heap.size w w' → K (a.put o.dst (.int .i64 n)) w') :
    if Region.wanted o (yielded ops a.tmps) = true then Oper.wp Tryz.prog o a w1 K Q else E := by
  refine step_copy_splice hgd d s 29 29 ho 22 Tryz.underlying29 size_u64 _ _ _ _ _ _ hd hs g off cur 188 hg (us xs) (by rw [us_len]; show _ = min n (6 - off); omega) (fun h0 => ⟨rfl, sl_us hsl h0⟩) (by rw [us_len]; omega) (us_one xs) w.heap.size w hB hBg ?_
  intro w' h1 h2
  have := h w' h1 h2
  rw [us_len, ← hn]
  exact this
theorem slice6 {o : Nat} (h1 : 1 ≤ o) (h3 : o ≤ 3) (g : Nat) : ∀ w : World, (Instr.sliceAt 188 (.pointer (some ⟨g, 0, none⟩)) (some (.int .i64 (o : Int))) none none).run Tryz.prog w = .ok (.slice (some ⟨g, o, none⟩) (6 - o) (6 - o)) w := by
  have h : o = 1 ∨ o = 2 ∨ o = 3 := by omega
  intro w
  rcases h with rfl | rfl | rfl <;> kernel_rfl
theorem cap6 {e : Nat} (h1 : 1 ≤ e) (h6 : e ≤ 6) (g : Nat) : ∀ w : World, (Instr.sliceAt 188 (.pointer (some ⟨g, 0, none⟩)) none (some (.int .i64 (e : Int))) (some (.int .i64 (e : Int)))).run Tryz.prog w = .ok (.slice (some ⟨g, 0, none⟩) e e) w := by
  have h : e = 1 ∨ e = 2 ∨ e = 3 ∨ e = 4 ∨ e = 5 ∨ e = 6 := by omega
  intro w
  rcases h with rfl | rfl | rfl | rfl | rfl | rfl <;> kernel_rfl
set_option maxRecDepth 100000 in
set_option maxHeartbeats 2000000 in
theorem words_yes (k v : ByteArray) (w : World) (hk : k.size ≤ 16) (hv : v.size ≤ 24) : Calls Tryz.prog 118 #[.string k, .string v] w (BoxOf (Bx.box k.data.toList v.data.toList) w) := by
  have H := fun w => head_any k v w (by unfold maxLen; omega) (by unfold maxLen; omega)
  have K := fun w => words_any k w (by omega)
  have V := fun w => words_any v w (by omega)
  have hbox : Bx.box k.data.toList v.data.toList = Bx.hd k.size v.size :: (Pk.words k.data.toList ++ Pk.words v.data.toList) := by unfold Bx.box; rw [ba_len, ba_len]
  have n1 : (Pk.words k.data.toList).length ≤ 2 := by rw [Pk.words_len, ba_len]; exact Bx.cnt_le (by omega)
  have n2 : (Pk.words v.data.toList).length ≤ 3 := by rw [Pk.words_len, ba_len]; exact Bx.cnt_le (by omega)
  rw [hbox]
  clear hbox
  generalize Pk.words k.data.toList = xs at *
  generalize Pk.words v.data.toList = ys at *
  generalize Bx.hd k.size v.size = y at *
  have HH := Lib.hid H; clear H
  have HK := Lib.hid K; clear K
  have HV := Lib.hid V; clear V
  have a1 : ¬ (16 : Int) < (k.size : Int) := by omega
  have a2 : ¬ (24 : Int) < (v.size : Int) := by omega
  go_enter Tryz.func118, Tryz.ntmps118
  go_wp2_with fail
  with_reducible refine (HH.out _).mono ?_
  rintro e w1 ⟨rfl, rfl⟩
  go_wp2_with fail
  obtain ⟨W, hW⟩ : ∃ W, W = w.alloc (.cells #[.int .u64 y, .int .u64 0, .int .u64 0, .int .u64 0, .int .u64 0, .int .u64 0] 188) := ⟨_, rfl⟩
  rw [← hW]
  have hB : Below w.heap.size w W := by rw [hW]; exact (Below.refl _ _).alloc (Nat.le_refl _) _
  have HG : Hid (W.heap[w.heap.size]? = some (.cells (row0 y).toArray 188 (0, 0))) := Lib.hid (by rw [hW]; exact heap_alloc_new w _)
  have hgW : w.heap.size < W.heap.size := by rw [hW]; simp
  clear hW
  go_region_law (first
    | (refine laid (cur := row0 y) (xs := xs) (A := A1) (n := xs.length) (c := c1) (g := w.heap.size) (off := 1) (w := w) ?k1 (.tmp 22) (.tmp 24) ?k2 ?k3 ?k4 rfl rfl ?k5 HG1.out hs1 hB1 (Nat.le_refl _) ?_
       case k1 => rfl
       case k2 => rfl
       case k3 => simp [go_sem]
       case k4 => simp [go_sem]
       case k5 => omega
       intro w2 HG2 hB2)
    | (go_simp
       with_reducible refine (HK.out _).mono ?_
       rintro e w1 ⟨A1, c1, rfl, hs1, hb1, -⟩
       have hB1 : Below w.heap.size w w1 := hB.trans ((below_then (Below.refl _ _).drew hb1).mono hB.size)
       have HG1 : Hid (w1.heap[w.heap.size]? = some (.cells (row0 y).toArray 188 (0, 0))) := Lib.hid ((hb1.block _ hgW).trans HG.out))
    | fail)
  clear HG hB hgW
  clear HG1 hB1 hs1 hb1
  have hgW : w.heap.size < w2.heap.size := (Array.getElem?_eq_some_iff.1 HG2.out).1
  have HG : Hid (w2.heap[w.heap.size]? = some (.cells (row1 y xs).toArray 188 (0, 0))) := Lib.hid HG2.out
  clear HG2
  go_wp2
  obtain ⟨o1, ho1, ho3, ho4⟩ : ∃ o1 : Nat, o1 = 1 + xs.length ∧ o1 ≤ 3 ∧ 1 ≤ o1 := ⟨_, rfl, by omega, by omega⟩
  have hq : IntKind.i64.wrap (1 + (xs.length : Int)) = (o1 : Int) := by
    rw [show 1 + (xs.length : Int) = (o1 : Int) by omega]
    simp [IntKind.wrap, IntKind.bits, IntKind.signed]; omega
  rw [hq]
  have Ho := Lib.hid ho1; clear ho1
  clear hq
  have hsl := slice6 ho4 ho3 w.heap.size
  have hB := hB2
  clear hB2
  go_region_law (first
    | (refine laid (cur := row1 y xs) (xs := ys) (A := A2) (n := ys.length) (c := c2) (g := w.heap.size) (off := o1) (w := w) ?k1 (.tmp 29) (.tmp 31) ?k2 ?k3 ?k4 rfl (row1_len n1) ?k5 HG1.out hs1 hB1 (Nat.le_refl _) ?_
       case k1 => rfl
       case k2 => rfl
       case k3 => simp [go_sem]
       case k4 => simp [go_sem]
       case k5 => omega
       intro w3 HG3 hB3)
    | (go_simp
       with_reducible refine (HV.out _).mono ?_
       rintro e w1 ⟨A2, c2, rfl, hs1, hb1, -⟩
       have hB1 : Below w.heap.size w w1 := hB.trans ((below_then (Below.refl _ _).drew hb1).mono hB.size)
       have HG1 : Hid (w1.heap[w.heap.size]? = some (.cells (row1 y xs).toArray 188 (0, 0))) := Lib.hid ((hb1.block _ hgW).trans HG.out))
    | fail)
  clear HG hB hgW
  clear HG1 hB1 hs1 hb1
  have hcut := cap6 (e := o1 + ys.length) (by omega) (by omega) w.heap.size
  rw [Int.natCast_add] at hcut
  go_wp2
  go_ret2
  refine ⟨some ⟨w.heap.size, 0, none⟩, o1 + ys.length, ?_, row2_sl (xs := xs) (ys := ys) (t := 188) (by have := HG3.out; rw [Ho.out] at this; exact this), hB3, _, rfl, Nat.le_refl _⟩
  have e : (y :: (xs ++ ys)).length = o1 + ys.length := by have := Ho.out; simp; omega
  rw [e]; rfl
/-- Words that are put behind others. -/
theorem append_us (W : World) (B : Nat) (v : Value) (xs : List Int) (ra : Option Addr) (rs : List Int) (rc : Nat) (hown : W.ownsRow B 22 1 v xs.length (us xs)) (hR : Sl .u64 W W.heap.size ra rs) (hnil : ra = none → rc = 0) (hl : xs.length + rs.length ≤ 1000) (hB : B ≤ W.heap.size) (ty : TypeId) :
    ∃ v' w', (Builtin.append_ #[29, 29] ty #[v, .slice ra rs.length rc]).run Tryz.prog W = .ok v' w' ∧ w'.ownsRow B 22 1 v' (xs ++ rs).length (us (xs ++ rs)) ∧ W.grownBy w' v.ownBlock := by
  obtain ⟨i0, hi, hz0, hz1, hz2⟩ := info_parts info_u64
  rcases ra with _ | a
  · have e0 : rs = [] := by
      rcases hR with h | ⟨_, _, h, _⟩
      · exact h
      · cases h
    subst e0
    rw [hnil rfl]
    exact ⟨v, W, run_append_owned_none (P := Tryz.prog) W B _ ty 22 i0 1 Tryz.underlying29 hi v _ _ hown, by simpa using hown, World.grownBy.refl W _⟩
  · have hcells : ∀ j u, (us rs)[j]? = some u → W.cell? (a.add j) = some u := by
      intro j u hj
      obtain ⟨ad, e, hc⟩ := sl_us hR (by have := (List.getElem?_eq_some_iff.1 hj).1; omega)
      cases e
      exact hc j u hj
    obtain ⟨v', w', h1, h2, h3, -⟩ := run_append_own_at (P := Tryz.prog) W B 29 ty 22 i0 (.int .u64 0) 1 8 Tryz.underlying29 hi hz0 hz1 hz2 rfl (by decide) v xs.length (us xs) hown a rs.length rc (us rs) (by rw [us_len]; omega) hcells (us_one rs) (by unfold maxLen; omega) (by omega) hB
    exact ⟨v', w', h1, by rw [List.length_append]; unfold us at *; rw [List.map_append]; exact h2, h3⟩
/-- An append whose run is known, at the operation. -/
theorem wpList_append_run {P : Program} (w : World) {ops : Array Oper} {rest : List Oper} {o : Oper} {a : Act} {Q : Exit → Act → World → Prop} (hgd : o.guard = none) (s x : Operand) (t : TypeId)
    (ho : o.op = .call { callee := .builtin .append, args := #[s, x], argTypes := #[t, t] }) (v u v' : Value) (w' : World) (hs : a.eval s = v) (hx : a.eval x = u)
    (hrun : (Builtin.append_ #[t, t] o.type #[v, u]).run P w = .ok v' w') (h : wpList P ops Q rest (a.put o.dst v') w') : wpList P ops Q (o :: rest) a w := by
  refine wpList_plain hgd fun K hK => ?_
  unfold Oper.wp
  simp [execOp, ho, resolve, invoke, builtin, hs, hx, hrun, Result.andThen]
  exact hK _ _ h
theorem boxOf_own {xs : List Int} {w w' : World} {v : Value} (hx : xs ≠ []) (hrow : w'.ownsRow w.heap.size 22 1 v xs.length (us xs)) (hb : Below w.heap.size w w') : BoxOf xs w (.returned (.tuple #[v, .bool true])) w' := by
  rcases hrow.2 with ⟨rfl, h0⟩ | ⟨g, cap, cur, rfl, hg, _⟩
  · exact absurd (List.length_eq_zero_iff.1 h0) hx
  · exact ⟨_, _, rfl, Sl.of_own hrow, hb, g, rfl, hg⟩
end Go.Proofs.YtknefjigdlbacaaGreatDoor
set_option linter.unusedSimpArgs false
set_option linter.unusedVariables false
namespace Go.Proofs.YtknefjigdlbacaaGreatDoor
open Go.RowKit Go.Maps
open Ac (A)
/-- A reader as a block: the act that comes next, and a slice. -/
def Rb (w : World) (q : Nat) (x : A) (ad : Option Addr) (n c : Nat) : Prop := w.heap[q]? = some (.cells #[.int .i64 x.k, .int .u64 x.b, .int .i64 x.c, .int .u64 x.o, .int .u64 x.n, .slice ad n c] 129 (0, 0))
section
variable {w w' : World} {q n c : Nat} {x : A} {ad : Option Addr}
theorem Rb.lt (h : Rb w q x ad n c) : q < w.heap.size := (Array.getElem?_eq_some_iff.1 h).1
theorem Rb.keep (h : Rb w q x ad n c) (e : w'.heap[q]? = w.heap[q]?) : Rb w' q x ad n c := e.trans h
theorem Rb.below (h : Rb w q x ad n c) (hb : Below w.heap.size w w') : Rb w' q x ad n c := h.keep (hb.block q h.lt)
theorem Rb.fz (h : Rb w q x ad n c) (i : Nat) : w.frozen? ⟨q, i, none⟩ = false := by simp [World.frozen?, show w.heap[q]? = _ from h]
theorem Rb.c0 (h : Rb w q x ad n c) : w.cell? ⟨q, 0, none⟩ = some (.int .i64 x.k) := by simp [World.cell?, show w.heap[q]? = _ from h]
theorem Rb.c1 (h : Rb w q x ad n c) : w.cell? ⟨q, 1, none⟩ = some (.int .u64 (x.b : Int)) := by simp [World.cell?, show w.heap[q]? = _ from h]
theorem Rb.c2 (h : Rb w q x ad n c) : w.cell? ⟨q, 2, none⟩ = some (.int .i64 x.c) := by simp [World.cell?, show w.heap[q]? = _ from h]
theorem Rb.c3 (h : Rb w q x ad n c) : w.cell? ⟨q, 3, none⟩ = some (.int .u64 (x.o : Int)) := by simp [World.cell?, show w.heap[q]? = _ from h]
theorem Rb.c4 (h : Rb w q x ad n c) : w.cell? ⟨q, 4, none⟩ = some (.int .u64 (x.n : Int)) := by simp [World.cell?, show w.heap[q]? = _ from h]
theorem Rb.c5 (h : Rb w q x ad n c) : w.cell? ⟨q, 5, none⟩ = some (.slice ad n c) := by simp [World.cell?, show w.heap[q]? = _ from h]
theorem Rb.drew (h : Rb w q x ad n c) : Rb w.drew q x ad n c := h
/-- Another slice. -/
theorem Rb.held (h : Rb w q x ad n c) (ad' : Option Addr) (n' c' : Nat) : Rb (w.setCell ⟨q, 5, none⟩ (.slice ad' n' c')) q x ad' n' c' := by
  unfold Rb at h ⊢
  rw [heap_setc h _ _]
  simp
/-- The next cell. -/
theorem Rb.celled (h : Rb w q x ad n c) (i : Int) : Rb (w.setCell ⟨q, 2, none⟩ (.int .i64 i)) q ⟨x.k, x.b, i, x.o, x.n⟩ ad n c := by
  unfold Rb at h ⊢
  rw [heap_setc h _ _]
  simp
/-- Another act. -/
abbrev act5 (w : World) (q : Nat) (x : A) : World := ((((w.setCell ⟨q, 0, none⟩ (.int .i64 x.k)).setCell ⟨q, 1, none⟩ (.int .u64 (x.b : Int))).setCell ⟨q, 2, none⟩ (.int .i64 x.c)).setCell ⟨q, 3, none⟩ (.int .u64 (x.o : Int))).setCell ⟨q, 4, none⟩ (.int .u64 (x.n : Int))
theorem Rb.acted (h : Rb w q x ad n c) (y : A) : Rb (act5 w q y) q y ad n c := by
  unfold Rb at h ⊢
  rw [heap_setc (heap_setc (heap_setc (heap_setc (heap_setc h _ _) _ _) _ _) _ _) _ _]
  simp
end
theorem ract_nil (w : World) : Calls Tryz.prog 34 #[.pointer none] w (Gives (.tuple #[av ⟨0, 0, 0, 0, 0⟩, .bool false]) w) := by
  go_enter Tryz.func34, Tryz.ntmps34
  go_wp2
  exact bodyPost_ret (v := .tuple #[av ⟨0, 0, 0, 0, 0⟩, .bool false]) (by simp [results, Tryz.results34, go_sem]) rfl ⟨rfl, (Below.refl _ w).alloc (Nat.le_refl _) _⟩
set_option maxRecDepth 100000 in
set_option maxHeartbeats 4000000 in
theorem ract_any (w : World) (q n c : Nat) (x : A) (ad : Option Addr) (h : Rb w q x ad n c) : Calls Tryz.prog 34 #[.pointer (some ⟨q, 0, none⟩)] w (Gives (.tuple #[av x, .bool (!isz x)]) w) := by
  have hb : ∀ o, Below w.heap.size w (w.alloc o) := fun o => (Below.refl _ w).alloc (Nat.le_refl _) _
  have c0 := fun o => (h.below (hb o)).c0
  have c1 := fun o => (h.below (hb o)).c1
  have c2 := fun o => (h.below (hb o)).c2
  have c3 := fun o => (h.below (hb o)).c3
  have c4 := fun o => (h.below (hb o)).c4
  obtain ⟨xk, xb, xc, xo, xn⟩ := x
  unfold isz
  dsimp only at c0 c1 c2 c3 c4 ⊢
  have q1 := ne_act xk xb xc xo xn 0 0 0 0 0
  generalize (!eqB xk xb xc xo xn 0 0 0 0 0) = t at *
  have HB := Lib.hid hb; clear hb
  clear h
  go_enter Tryz.func34, Tryz.ntmps34
  go_wp2
  go_region
  all_goals go_wp2
  all_goals exact bodyPost_ret (v := .tuple #[av ⟨xk, xb, xc, xo, xn⟩, .bool t]) (by simp [results, Tryz.results34, go_sem]) rfl ⟨rfl, (((Below.refl _ w).alloc (Nat.le_refl _) _).drew)⟩
set_option maxRecDepth 100000 in
set_option maxHeartbeats 4000000 in
theorem rnew_any (b : Nat) (w : World) : Calls Tryz.prog 93 #[.int .u64 (b : Int)] w fun e w' => e = .returned (.pointer (some ⟨w.heap.size, 0, none⟩)) ∧ Rb w' w.heap.size ⟨1, b, 0, 0, 0⟩ none 0 0 ∧ Below w.heap.size w w' := by
  go_enter Tryz.func93, Tryz.ntmps93
  go_wp2
  go_ret
  exact ⟨rfl, heap_alloc_new w _, (Below.refl _ w).alloc (Nat.le_refl _) _⟩
set_option maxRecDepth 100000 in
set_option maxHeartbeats 4000000 in
theorem whole_none (w : World) (q c : Nat) (x : A) (ad : Option Addr) (h : Rb w q x ad 0 c) : Calls Tryz.prog 95 #[.pointer (some ⟨q, 5, none⟩)] w (Gives (.bool false) w) := by
  have c5 := h.c5
  clear h
  go_enter Tryz.func95, Tryz.ntmps95
  go_wp2
  go_quiet (fail)
  go_wp2
  go_ret
  exact ⟨rfl, below_drewN w _⟩
set_option maxRecDepth 100000 in
set_option maxHeartbeats 4000000 in
theorem whole_some (w : World) (q n c g y : Nat) (x : A) (h : Rb w q x (some ⟨g, 0, none⟩) n c) (hn : 0 < n) (hn2 : n ≤ 1000000) (hy : w.cell? ⟨g, 0, none⟩ = some (.int .u64 (y : Int))) (hy2 : y < 18446744073709551616) : Calls Tryz.prog 95 #[.pointer (some ⟨q, 5, none⟩)] w (Gives (.bool ((n : Int) == Bx.size (y : Int))) w) := by
  have c5 := h.c5
  clear h
  have K : ∀ k, Calls Tryz.prog 132 #[.int .u64 (y : Int)] (w.drewN k) fun e w' => e = .returned (.int .i64 (Bx.size (y : Int))) ∧ ∃ m, w' = w.drewN m := fun k => by
    refine (bsize_any (y : Int) _ (by omega) (by omega)).mono ?_
    rintro e w' ⟨rfl, rfl⟩
    exact ⟨rfl, k, rfl⟩
  generalize Bx.size (y : Int) = s at *
  have HK := Lib.hid K; clear K
  have hn1 : decide ((0 : Int) < (n : Int)) = true := by simp; omega
  have hn3 : decide (0 < n) = true := by simp; omega
  have hn0 : (0 : Int) < (n : Int) := by omega
  go_enter Tryz.func95, Tryz.ntmps95
  go_wp2
  go_quiet (with_reducible exact HK.out _)
  go_wp2
  go_ret
  exact ⟨rfl, below_drewN w _⟩
end Go.Proofs.YtknefjigdlbacaaGreatDoor
