/-
  The walk of doKey: an operation on a key. By an AI agent.
-/
import Derived.Test.YtigopifioijjlaaSpecKey
set_option linter.unusedSimpArgs false
namespace Go.Proofs.Ytigopifioijjlaa
open Go.RowKit
open Dc (Pr Rpl)
theorem ans_eq (o : Option ByteArray) : ans o = .tuple #[.string (o.getD ⟨#[]⟩), .bool o.isSome] := by cases o <;> rfl
/-- An operation lies in block b. -/
def OpAt (w : World) (b : Nat) (k : Int) (key val old : ByteArray) : Prop := w.heap[b]? = some (.cells #[.int .i64 k, .string key, .string val, .string old] 27 (0, 0))
theorem OpAt.cells {w : World} {b : Nat} {k : Int} {key val old : ByteArray} (h : OpAt w b k key val old) : w.cell? ⟨b, 0, none⟩ = some (.int .i64 k) ∧ w.cell? ⟨b, 1, none⟩ = some (.string key) ∧ w.cell? ⟨b, 2, none⟩ = some (.string val) ∧ w.cell? ⟨b, 3, none⟩ = some (.string old) := by
  unfold OpAt at h
  refine ⟨?_, ?_, ?_, ?_⟩ <;> simp [World.cell?, h]
theorem OpAt.keep {w w' : World} {b : Nat} {k : Int} {key val old : ByteArray} (h : OpAt w b k key val old) (hb : w'.heap[b]? = w.heap[b]?) : OpAt w' b k key val old := hb.trans h
/-- An answer lies in block b. -/
def RpAt (w : World) (b : Nat) (r : Rpl) (u : Value) : Prop := w.heap[b]? = some (.cells #[.int .i64 r.err, .bool r.had, .bool r.did, .string r.val, .int .i64 r.n, u] 30 (0, 0))
theorem RpAt.cells {w : World} {b : Nat} {r : Rpl} {u : Value} (h : RpAt w b r u) : w.cell? ⟨b, 0, none⟩ = some (.int .i64 r.err) ∧ w.cell? ⟨b, 1, none⟩ = some (.bool r.had) ∧ w.cell? ⟨b, 2, none⟩ = some (.bool r.did) ∧ w.cell? ⟨b, 3, none⟩ = some (.string r.val) ∧ w.cell? ⟨b, 4, none⟩ = some (.int .i64 r.n) ∧ w.cell? ⟨b, 5, none⟩ = some u := by
  unfold RpAt at h
  refine ⟨?_, ?_, ?_, ?_, ?_, ?_⟩ <;> simp [World.cell?, h]
theorem RpAt.frozen {w : World} {b : Nat} {r : Rpl} {u : Value} (h : RpAt w b r u) (o : Nat) : w.frozen? ⟨b, o, none⟩ = false := by
  unfold RpAt at h
  simp [World.frozen?, h]
theorem RpAt.keep {w w' : World} {b : Nat} {r : Rpl} {u : Value} (h : RpAt w b r u) (hb : w'.heap[b]? = w.heap[b]?) : RpAt w' b r u := hb.trans h
/-- Behind the two boxes. -/
def two (w : World) (k : Int) (key val old : ByteArray) : World := (w.alloc (.cells #[.int .i64 k, .string key, .string val, .string old] 27)).alloc (.cells #[.int .i64 0, .bool false, .bool false, .string ⟨#[]⟩, .int .i64 0, .slice none 0 0] 30)
theorem two_below (w : World) (k : Int) (key val old : ByteArray) : Below w.heap.size w (two w k key val old) := ((Below.refl _ w).alloc (Nat.le_refl _) _).alloc (by simp) _
theorem two_size (w : World) (k : Int) (key val old : ByteArray) : (two w k key val old).heap.size = w.heap.size + 2 := by simp [two]
theorem two_op (w : World) (k : Int) (key val old : ByteArray) : OpAt (two w k key val old) w.heap.size k key val old :=
  (Below.heap_alloc _ _ _ (by simp)).trans (heap_alloc_new w _)
theorem two_rp (w : World) (k : Int) (key val old : ByteArray) : RpAt (two w k key val old) (w.heap.size + 1) {} (.slice none 0 0) := by
  have := heap_alloc_new (w.alloc (.cells #[.int .i64 k, .string key, .string val, .string old] 27)) (.cells #[.int .i64 0, .bool false, .bool false, .string ⟨#[]⟩, .int .i64 0, .slice none 0 0] 30)
  rw [World.size_alloc] at this
  exact this
/-- An answer is stored. -/
def six (w : World) (b : Nat) (r : Rpl) (u : Value) : World := ((((((w.setCell ⟨b, 0, none⟩ (.int .i64 r.err)).setCell ⟨b, 1, none⟩ (.bool r.had)).setCell ⟨b, 2, none⟩ (.bool r.did)).setCell ⟨b, 3, none⟩ (.string r.val)).setCell ⟨b, 4, none⟩ (.int .i64 r.n)).setCell ⟨b, 5, none⟩ u)
theorem heap_setI {w : World} {p i : Nat} {cur : Array Value} {t : TypeId} (h : w.heap[p]? = some (.cells cur t (0, 0))) (u : Value) : (w.setCell ⟨p, i, none⟩ u).heap[p]? = some (.cells (cur.setIfInBounds i u) t (0, 0)) := by
  obtain ⟨hlt, hk⟩ := Array.getElem?_eq_some_iff.1 h
  show (w.heap.modify p _)[p]? = _
  rw [Array.getElem?_eq_getElem (by rw [Array.size_modify]; exact hlt), Array.getElem_modify_self, hk]
  rfl
theorem RpAt.six {w : World} {b : Nat} {r : Rpl} {u : Value} (h : RpAt w b r u) (r' : Rpl) (u' : Value) : RpAt (six w b r' u') b r' u' :=
  heap_setI (heap_setI (heap_setI (heap_setI (heap_setI (heap_setI h _) _) _) _) _) _
theorem six_below {w w' : World} {B b : Nat} (h : Below B w w') (hb : B ≤ b) (r : Rpl) (u : Value) : Below B w (six w' b r u) :=
  (((((h.setCell (p := ⟨b, 0, none⟩) hb _).setCell (p := ⟨b, 1, none⟩) hb _).setCell (p := ⟨b, 2, none⟩) hb _).setCell (p := ⟨b, 3, none⟩) hb _).setCell (p := ⟨b, 4, none⟩) hb _).setCell (p := ⟨b, 5, none⟩) hb _
theorem six_block {w : World} {b k : Nat} (h : k ≠ b) (r : Rpl) (u : Value) : (six w b r u).heap[k]? = w.heap[k]? := by
  unfold six
  rw [Below.heap_setCell _ _ _ k h, Below.heap_setCell _ _ _ k h, Below.heap_setCell _ _ _ k h, Below.heap_setCell _ _ _ k h, Below.heap_setCell _ _ _ k h, Below.heap_setCell _ _ _ k h]
theorem six_size {w : World} {b : Nat} (r : Rpl) (u : Value) : (six w b r u).heap.size = w.heap.size := by simp [six, World.setCell]
/-- A list that lies in no block of an answer. -/
theorem Row.six {B : Nat} {w : World} {v : Value} {l : List Pr} (h : Row B 46 w v l) {b : Nat} {r0 : Rpl} {u0 : Value} (hb : RpAt w b r0 u0) (r : Rpl) (u : Value) : Row B 46 (six w b r u) v l :=
  own_keep h fun k hk => six_block (fun e => own_ne h hb (by decide) (by rw [← e]; exact hk)) r u
/-- A call answers a new list and an answer without pairs. -/
def Keys (l : List Pr) (r : Rpl) (w : World) (e : Ending) (w' : World) : Prop := ∃ v, e = .returned (.tuple #[v, .agg #[.int .i64 r.err, .bool r.had, .bool r.did, .string r.val, .int .i64 r.n, .slice none 0 0]]) ∧ Row w.heap.size 46 w' v l ∧ Below w.heap.size w w'
set_option maxRecDepth 100000 in
set_option maxHeartbeats 4000000 in
theorem doKey_any (v : Value) (l : List Pr) (k : Int) (key val old : ByteArray) (w : World) (h : Lst w v l) (hl : l.length ≤ 1000) (hs : Dc.Srt l) (hk : 1 ≤ k ∧ k ≤ 7) :
    Calls Try.prog 22 #[v, .agg #[.int .i64 k, .string key, .string val, .string old]] w (Keys (Dc.keyM l k key val old) (Dc.keyR l k key old) w) := by
  have hB0 := two_below w k key val old
  have HO := Lib.hid (two_op w k key val old)
  have HRp := Lib.hid (two_rp w k key val old)
  have hz0 := two_size w k key val old
  have HD := Lib.hid (dictOf_any v l _ (h.below hB0) (by omega) hs)
  have HK : Hid (Dc.keyM l k key val old = if Dc.didB k old (Dc.gt l key) = true then (if 6 ≤ k then Dc.del l key else Dc.put l key val) else l) := Lib.hid rfl
  have HKR : Hid (Dc.keyR l k key old = { had := (Dc.gt l key).isSome, did := Dc.didB k old (Dc.gt l key), val := (Dc.gt l key).getD ⟨#[]⟩ }) := Lib.hid rfl
  obtain ⟨va, vc, rfl, -⟩ := h
  have HB0 := Lib.hid hB0; clear hB0
  have HZ0 := Lib.hid hz0; clear hz0
  unfold two at HD HO HRp HB0 HZ0
  go_enter Try.func22, Try.ntmps22
  go_wp2_with fail
  with_reducible refine HD.out.mono ?_
  rintro e w1 ⟨p, u, rfl, hm, hb1⟩
  have hG := get_any _ p u l key w1 hm (by omega)
  rw [ans_eq] at hG
  have HG := Lib.hid hG; clear hG
  have HM := Lib.hid hm; clear hm
  have HO1 := Lib.hid (HO.out.keep (hb1.block w.heap.size (by simp; omega)))
  obtain ⟨-, c1, -, -⟩ := HO1.out.cells
  have HB1 := Lib.hid hb1; clear hb1
  have HP : Hid (Dc.gt l key = Dc.gt l key) := Lib.hid rfl
  generalize hg : Dc.gt l key = g at HG HK HKR HP
  have Hg := Lib.hid hg; clear hg
  generalize hgs : g.getD ⟨#[]⟩ = gs at *
  generalize hgi : g.isSome = gi at *
  have Hgs := Lib.hid hgs; clear hgs
  have Hgi := Lib.hid hgi; clear hgi
  go_wp2_with fail
  with_reducible refine HG.out.mono ?_
  rintro e w2 ⟨rfl, hb2⟩
  have hM2 := HM.out.below hb2
  have hb02 := HB1.out.trans (hb2.mono (by have := HB1.out.size; omega))
  have HO2 := Lib.hid (HO.out.keep (hb02.block w.heap.size (by simp; omega)))
  obtain ⟨d0, d1, d2, d3⟩ := HO2.out.cells
  have HM2 := Lib.hid hM2; clear hM2
  have HB2 := Lib.hid hb02; clear hb02 hb2 c1
  have hC := changes_any k key val old g w2 hk
  rw [Hgs.out, Hgi.out] at hC
  generalize hd : Dc.didB k old g = d at hC HK HKR
  have Hd := Lib.hid hd; clear hd
  have HC := Lib.hid hC; clear hC
  go_wp2_with fail
  with_reducible refine HC.out.mono ?_
  rintro e w3 ⟨rfl, hb3⟩
  have hM3 := HM2.out.below hb3
  have hb03 := HB2.out.trans (hb3.mono (by have := HB2.out.size; omega))
  have HO3 := Lib.hid (HO.out.keep (hb03.block w.heap.size (by simp; omega)))
  obtain ⟨e0, e1, e2, e3⟩ := HO3.out.cells
  have HM3 := Lib.hid hM3; clear hM3
  have HB3 := Lib.hid hb03; clear hb03 hb3 d0 d1 d2 d3
  cases d
  · have HK2 : Hid (Dc.keyM l k key val old = l) := Lib.hid (by rw [HK.out]; rfl)
    have HT := Lib.hid (pairsOf_any _ p u l w3 HM3.out (by omega))
    clear HK
    go_wp2_with fail
    with_reducible refine HT.out.mono ?_
    rintro e w4 ⟨v4, rfl, hr4, hb4⟩
    have hb04 := HB3.out.trans (hb4.mono (by have := HB3.out.size; omega))
    have HR4 := Lib.hid (HRp.out.keep (hb04.block (w.heap.size + 1) (by simp)))
    obtain ⟨f0, f1, f2, f3, f4, f5⟩ := HR4.out.cells
    have fz := HR4.out.frozen
    have HB4 := Lib.hid hb04; clear hb04 hb4 e0 e1 e2 e3
    have HL4 := Lib.hid hr4; clear hr4
    go_wp2
    show bodyPost _ _ _ _ _ (six w4 (w.heap.size + 1) { had := gi, did := false, val := gs } (.slice none 0 0))
    have HB5 := Lib.hid (six_below ((HB0.out.trans (HB4.out.mono (by have := HZ0.out; omega)))) (b := w.heap.size + 1) (by omega) { had := gi, did := false, val := gs } (.slice none 0 0))
    have HR5 := Lib.hid (HR4.out.six { had := gi, did := false, val := gs } (.slice none 0 0))
    have HL5 := Lib.hid (HL4.out.six HR4.out { had := gi, did := false, val := gs } (.slice none 0 0))
    generalize six w4 (w.heap.size + 1) { had := gi, did := false, val := gs } (.slice none 0 0) = w5 at HB5 HR5 HL5 ⊢
    obtain ⟨g0, g1, g2, g3, g4, g5⟩ := HR5.out.cells
    rw [HK2.out, HKR.out]
    exact bodyPost_ret (v := .tuple #[v4, .agg #[.int .i64 0, .bool gi, .bool false, .string gs, .int .i64 0, .slice none 0 0]]) (by simp [results, Try.results22, go_sem, g0, g1, g2, g3, g4, g5]) rfl ⟨_, rfl, own_mono HL5.out (HB0.out.trans (HB3.out.mono (by have := HZ0.out; omega))).size, HB5.out⟩
  · have hk2 : 2 ≤ k ∧ k ≤ 7 := by
      refine ⟨?_, hk.2⟩
      rcases Int.lt_or_le k 2 with h1 | h1
      · have e : k = 1 := by omega
        have := Hd.out
        rw [e] at this
        simp [Dc.didB] at this
      · exact h1
    have HK2 : Hid (Dc.keyM l k key val old = if 6 ≤ k then Dc.del l key else Dc.put l key val) := Lib.hid (by rw [HK.out]; rfl)
    have hlen : (Dc.keyM l k key val old).length ≤ 1000000 := by
      rw [HK2.out]
      split
      · have := Dc.len_del l key; omega
      · have := Dc.len_put l key val hs; omega
    have hT := change_any _ p u l k key val old w3 HM3.out (by omega) hk2
    rw [← HK2.out] at hT
    have HT := Lib.hid hT; clear hT
    clear HK HK2
    generalize Dc.keyM l k key val old = m at *
    go_wp2_with fail
    with_reducible refine HT.out.mono ?_
    rintro e w4 ⟨⟨r4, rfl⟩, u4, hm4, hs4⟩
    have hb4 := hs4.below HM3.out
    have hb04 := HB3.out.trans hb4
    have HP4 := Lib.hid (pairsOf_any _ p u4 m w4 hm4 hlen)
    have HB4 := Lib.hid hb04; clear hb04 hb4 e0 e1 e2 e3 hs4 hm4
    go_wp2_with fail
    with_reducible refine HP4.out.mono ?_
    rintro e w5 ⟨v5, rfl, hr5, hb5⟩
    have hb05 := HB4.out.trans (hb5.mono (by have := HB4.out.size; omega))
    have HR5 := Lib.hid (HRp.out.keep (hb05.block (w.heap.size + 1) (by simp)))
    obtain ⟨f0, f1, f2, f3, f4, f5⟩ := HR5.out.cells
    have fz := HR5.out.frozen
    have HB5 := Lib.hid hb05; clear hb05 hb5
    have HL5 := Lib.hid hr5; clear hr5
    go_wp2
    show bodyPost _ _ _ _ _ (six w5 (w.heap.size + 1) { had := gi, did := true, val := gs } (.slice none 0 0))
    have HB6 := Lib.hid (six_below ((HB0.out.trans (HB5.out.mono (by have := HZ0.out; omega)))) (b := w.heap.size + 1) (by omega) { had := gi, did := true, val := gs } (.slice none 0 0))
    have HR6 := Lib.hid (HR5.out.six { had := gi, did := true, val := gs } (.slice none 0 0))
    have HL6 := Lib.hid (HL5.out.six HR5.out { had := gi, did := true, val := gs } (.slice none 0 0))
    generalize six w5 (w.heap.size + 1) { had := gi, did := true, val := gs } (.slice none 0 0) = w6 at HB6 HR6 HL6 ⊢
    clear f0 f1 f2 f3 f4 f5 fz
    obtain ⟨g0, g1, g2, g3, g4, g5⟩ := HR6.out.cells
    rw [HKR.out]
    exact bodyPost_ret (v := .tuple #[v5, .agg #[.int .i64 0, .bool gi, .bool true, .string gs, .int .i64 0, .slice none 0 0]]) (by simp [results, Try.results22, go_sem, g0, g1, g2, g3, g4, g5]) rfl ⟨_, rfl, own_mono HL6.out (HB0.out.trans (HB4.out.mono (by have := HZ0.out; omega))).size, HB6.out⟩
end Go.Proofs.Ytigopifioijjlaa
