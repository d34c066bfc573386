/-
  The walk of the document's own Do, of operations without a key. By an AI agent.
-/
import Derived.Test.YtigopifioijjlaaSpecDoKey
import Derived.Test.YtigopifioijjlaaSpecLong
set_option linter.unusedSimpArgs false
namespace Go.Proofs.Ytigopifioijjlaa
open Go.RowKit
open Dc (Pr Rpl)
/-- Behind the two boxes, the answer laid. -/
def twoR (w : World) (k : Int) (key val old : ByteArray) (r : Rpl) (u : Value) : World := (w.alloc (.cells #[.int .i64 k, .string key, .string val, .string old] 27)).alloc (.cells #[.int .i64 r.err, .bool r.had, .bool r.did, .string r.val, .int .i64 r.n, u] 30)
theorem twoR_below (w : World) (k : Int) (key val old : ByteArray) (r : Rpl) (u : Value) : Below w.heap.size w (twoR w k key val old r u) := ((Below.refl _ w).alloc (Nat.le_refl _) _).alloc (by simp) _
theorem twoR_rp (w : World) (k : Int) (key val old : ByteArray) (r : Rpl) (u : Value) : RpAt (twoR w k key val old r u) (w.heap.size + 1) r u := by
  have := heap_alloc_new (w.alloc (.cells #[.int .i64 k, .string key, .string val, .string old] 27)) (.cells #[.int .i64 r.err, .bool r.had, .bool r.did, .string r.val, .int .i64 r.n, u] 30)
  rw [World.size_alloc] at this
  exact this
set_option maxRecDepth 100000 in
set_option maxHeartbeats 4000000 in
theorem rdo_low (v : Value) (l : List Pr) (k : Int) (key val old : ByteArray) (w : World) (h : Lst w v l) (hk : k < 1) :
    Calls Try.prog 9 #[v, .agg #[.int .i64 k, .string key, .string val, .string old]] w (Does l { err := 2 } w) := by
  have HV := Lib.hid h
  obtain ⟨va, vc, rfl, -⟩ := h
  go_enter Try.func9, Try.ntmps9
  go_wp2
  show bodyPost _ _ _ _ _ (twoR w k key val old { err := 2 } (.slice none 0 0))
  have HBe := Lib.hid (twoR_below w k key val old { err := 2 } (.slice none 0 0))
  have HRe := Lib.hid (twoR_rp w k key val old { err := 2 } (.slice none 0 0))
  generalize twoR w k key val old { err := 2 } (.slice none 0 0) = we at HBe HRe ⊢
  obtain ⟨g0, g1, g2, g3, g4, g5⟩ := HRe.out.cells
  exact bodyPost_ret (v := .tuple #[.slice va l.length vc, .agg #[.int .i64 2, .bool false, .bool false, .string ⟨#[]⟩, .int .i64 0, (.slice none 0 0)]]) (by simp [results, Try.results9, go_sem, g0, g1, g2, g3, g4, g5]) rfl ⟨_, _, rfl, HV.out.below HBe.out, Lst.nil _, HBe.out⟩
set_option maxRecDepth 100000 in
set_option maxHeartbeats 4000000 in
theorem rdo_high (v : Value) (l : List Pr) (k : Int) (key val old : ByteArray) (w : World) (h : Lst w v l) (hk : 11 < k) :
    Calls Try.prog 9 #[v, .agg #[.int .i64 k, .string key, .string val, .string old]] w (Does l { err := 2 } w) := by
  have HV := Lib.hid h
  obtain ⟨va, vc, rfl, -⟩ := h
  have hk1 : ¬ (k < 1) := by omega
  go_enter Try.func9, Try.ntmps9
  go_wp2
  show bodyPost _ _ _ _ _ (twoR w k key val old { err := 2 } (.slice none 0 0))
  have HBe := Lib.hid (twoR_below w k key val old { err := 2 } (.slice none 0 0))
  have HRe := Lib.hid (twoR_rp w k key val old { err := 2 } (.slice none 0 0))
  generalize twoR w k key val old { err := 2 } (.slice none 0 0) = we at HBe HRe ⊢
  obtain ⟨g0, g1, g2, g3, g4, g5⟩ := HRe.out.cells
  exact bodyPost_ret (v := .tuple #[.slice va l.length vc, .agg #[.int .i64 2, .bool false, .bool false, .string ⟨#[]⟩, .int .i64 0, (.slice none 0 0)]]) (by simp [results, Try.results9, go_sem, g0, g1, g2, g3, g4, g5]) rfl ⟨_, _, rfl, HV.out.below HBe.out, Lst.nil _, HBe.out⟩
set_option maxRecDepth 100000 in
set_option maxHeartbeats 4000000 in
theorem rdo_long (v : Value) (l : List Pr) (k : Int) (key val old : ByteArray) (w : World) (h : Lst w v l) (hlong : Dc.longB k key val = true) (hk : 1 ≤ k ∧ k ≤ 7) :
    Calls Try.prog 9 #[v, .agg #[.int .i64 k, .string key, .string val, .string old]] w (Does l { err := 11 } w) := by
  have HB0 := Lib.hid (two_below w k key val old)
  have HO := Lib.hid (two_op w k key val old)
  have HRp := Lib.hid (two_rp w k key val old)
  have HZ0 := Lib.hid (two_size w k key val old)
  have HV := Lib.hid h
  obtain ⟨va, vc, rfl, -⟩ := h
  have hL := rlong_any k key val old (two w k key val old)
  rw [hlong] at hL
  have HL := Lib.hid hL; clear hL
  unfold two at HL
  have k1 : ¬ (k < 1) := by omega
  have k2 : ¬ (11 < k) := by omega
  unfold two at HO HRp HB0 HZ0
  go_enter Try.func9, Try.ntmps9
  go_wp2_with fail
  with_reducible refine HL.out.mono ?_
  rintro e w1 ⟨rfl, hb1⟩
  have HO1 := Lib.hid (HO.out.keep (hb1.block w.heap.size (by simp; omega)))
  have HR1 := Lib.hid (HRp.out.keep (hb1.block (w.heap.size + 1) (by simp)))
  obtain ⟨c0, c1, c2, c3⟩ := HO1.out.cells
  have HB1 := Lib.hid (HB0.out.trans (hb1.mono (by have := HZ0.out; omega)))
  clear hb1
  obtain ⟨f0, f1, f2, f3, f4, f5⟩ := HR1.out.cells
  have fz := HR1.out.frozen
  go_wp2
  clear f0 f1 f2 f3 f4 f5 fz
  show bodyPost _ _ _ _ _ (six w1 (w.heap.size + 1) { err := 11 } (.slice none 0 0))
  have HBe := Lib.hid (six_below HB1.out (b := w.heap.size + 1) (by omega) { err := 11 } (.slice none 0 0))
  have HRe := Lib.hid (HR1.out.six { err := 11 } (.slice none 0 0))
  generalize six w1 (w.heap.size + 1) { err := 11 } (.slice none 0 0) = we at HBe HRe ⊢
  obtain ⟨g0, g1, g2, g3, g4, g5⟩ := HRe.out.cells
  exact bodyPost_ret (v := .tuple #[.slice va l.length vc, .agg #[.int .i64 11, .bool false, .bool false, .string ⟨#[]⟩, .int .i64 0, (.slice none 0 0)]]) (by simp [results, Try.results9, go_sem, g0, g1, g2, g3, g4, g5]) rfl ⟨_, _, rfl, HV.out.below HBe.out, Lst.nil _, HBe.out⟩
set_option maxRecDepth 100000 in
set_option maxHeartbeats 4000000 in
theorem rdo_len (v : Value) (l : List Pr) (k : Int) (key val old : ByteArray) (w : World) (h : Lst w v l) (hlong : Dc.longB k key val = false) (hk : k = 8) :
    Calls Try.prog 9 #[v, .agg #[.int .i64 k, .string key, .string val, .string old]] w (Does l { n := l.length } w) := by
  have HB0 := Lib.hid (two_below w k key val old)
  have HO := Lib.hid (two_op w k key val old)
  have HRp := Lib.hid (two_rp w k key val old)
  have HZ0 := Lib.hid (two_size w k key val old)
  have HV := Lib.hid h
  obtain ⟨va, vc, rfl, -⟩ := h
  have hL := rlong_any k key val old (two w k key val old)
  rw [hlong] at hL
  have HL := Lib.hid hL; clear hL
  unfold two at HL
  subst hk
  unfold two at HO HRp HB0 HZ0
  go_enter Try.func9, Try.ntmps9
  go_wp2_with fail
  with_reducible refine HL.out.mono ?_
  rintro e w1 ⟨rfl, hb1⟩
  have HO1 := Lib.hid (HO.out.keep (hb1.block w.heap.size (by simp; omega)))
  have HR1 := Lib.hid (HRp.out.keep (hb1.block (w.heap.size + 1) (by simp)))
  obtain ⟨c0, c1, c2, c3⟩ := HO1.out.cells
  have HB1 := Lib.hid (HB0.out.trans (hb1.mono (by have := HZ0.out; omega)))
  clear hb1
  obtain ⟨f0, f1, f2, f3, f4, f5⟩ := HR1.out.cells
  have fz := HR1.out.frozen
  go_wp2
  clear f0 f1 f2 f3 f4 f5 fz
  show bodyPost _ _ _ _ _ (six w1 (w.heap.size + 1) { n := l.length } (.slice none 0 0))
  have HBe := Lib.hid (six_below HB1.out (b := w.heap.size + 1) (by omega) { n := l.length } (.slice none 0 0))
  have HRe := Lib.hid (HR1.out.six { n := l.length } (.slice none 0 0))
  generalize six w1 (w.heap.size + 1) { n := l.length } (.slice none 0 0) = we at HBe HRe ⊢
  obtain ⟨g0, g1, g2, g3, g4, g5⟩ := HRe.out.cells
  exact bodyPost_ret (v := .tuple #[.slice va l.length vc, .agg #[.int .i64 0, .bool false, .bool false, .string ⟨#[]⟩, .int .i64 (l.length : Int), (.slice none 0 0)]]) (by simp [results, Try.results9, go_sem, g0, g1, g2, g3, g4, g5]) rfl ⟨_, _, rfl, HV.out.below HBe.out, Lst.nil _, HBe.out⟩
set_option maxRecDepth 100000 in
set_option maxHeartbeats 4000000 in
theorem rdo_flush (v : Value) (l : List Pr) (k : Int) (key val old : ByteArray) (w : World) (h : Lst w v l) (hlong : Dc.longB k key val = false) (hk : k = 11) :
    Calls Try.prog 9 #[v, .agg #[.int .i64 k, .string key, .string val, .string old]] w (Does l {} w) := by
  have HB0 := Lib.hid (two_below w k key val old)
  have HO := Lib.hid (two_op w k key val old)
  have HRp := Lib.hid (two_rp w k key val old)
  have HZ0 := Lib.hid (two_size w k key val old)
  have HV := Lib.hid h
  obtain ⟨va, vc, rfl, -⟩ := h
  have hL := rlong_any k key val old (two w k key val old)
  rw [hlong] at hL
  have HL := Lib.hid hL; clear hL
  unfold two at HL
  subst hk
  unfold two at HO HRp HB0 HZ0
  go_enter Try.func9, Try.ntmps9
  go_wp2_with fail
  with_reducible refine HL.out.mono ?_
  rintro e w1 ⟨rfl, hb1⟩
  have HO1 := Lib.hid (HO.out.keep (hb1.block w.heap.size (by simp; omega)))
  have HR1 := Lib.hid (HRp.out.keep (hb1.block (w.heap.size + 1) (by simp)))
  obtain ⟨c0, c1, c2, c3⟩ := HO1.out.cells
  have HB1 := Lib.hid (HB0.out.trans (hb1.mono (by have := HZ0.out; omega)))
  clear hb1
  obtain ⟨f0, f1, f2, f3, f4, f5⟩ := HR1.out.cells
  have fz := HR1.out.frozen
  go_wp2
  clear f0 f1 f2 f3 f4 f5 fz
  show bodyPost _ _ _ _ _ (six w1 (w.heap.size + 1) {} (.slice none 0 0))
  have HBe := Lib.hid (six_below HB1.out (b := w.heap.size + 1) (by omega) {} (.slice none 0 0))
  have HRe := Lib.hid (HR1.out.six {} (.slice none 0 0))
  generalize six w1 (w.heap.size + 1) {} (.slice none 0 0) = we at HBe HRe ⊢
  obtain ⟨g0, g1, g2, g3, g4, g5⟩ := HRe.out.cells
  exact bodyPost_ret (v := .tuple #[.slice va l.length vc, .agg #[.int .i64 0, .bool false, .bool false, .string ⟨#[]⟩, .int .i64 0, (.slice none 0 0)]]) (by simp [results, Try.results9, go_sem, g0, g1, g2, g3, g4, g5]) rfl ⟨_, _, rfl, HV.out.below HBe.out, Lst.nil _, HBe.out⟩
set_option maxRecDepth 100000 in
set_option maxHeartbeats 4000000 in
theorem rdo_range (v : Value) (l : List Pr) (k : Int) (key val old : ByteArray) (w : World) (h : Lst w v l) (hlong : Dc.longB k key val = false) (hk : k = 10) :
    Calls Try.prog 9 #[v, .agg #[.int .i64 k, .string key, .string val, .string old]] w (Does l { prs := l } w) := by
  have HB0 := Lib.hid (two_below w k key val old)
  have HO := Lib.hid (two_op w k key val old)
  have HRp := Lib.hid (two_rp w k key val old)
  have HZ0 := Lib.hid (two_size w k key val old)
  have HV := Lib.hid h
  obtain ⟨va, vc, rfl, -⟩ := h
  have hL := rlong_any k key val old (two w k key val old)
  rw [hlong] at hL
  have HL := Lib.hid hL; clear hL
  unfold two at HL
  subst hk
  unfold two at HO HRp HB0 HZ0
  go_enter Try.func9, Try.ntmps9
  go_wp2_with fail
  with_reducible refine HL.out.mono ?_
  rintro e w1 ⟨rfl, hb1⟩
  have HO1 := Lib.hid (HO.out.keep (hb1.block w.heap.size (by simp; omega)))
  have HR1 := Lib.hid (HRp.out.keep (hb1.block (w.heap.size + 1) (by simp)))
  obtain ⟨c0, c1, c2, c3⟩ := HO1.out.cells
  have HB1 := Lib.hid (HB0.out.trans (hb1.mono (by have := HZ0.out; omega)))
  clear hb1
  obtain ⟨f0, f1, f2, f3, f4, f5⟩ := HR1.out.cells
  have fz := HR1.out.frozen
  go_wp2
  clear f0 f1 f2 f3 f4 f5 fz
  show bodyPost _ _ _ _ _ (six w1 (w.heap.size + 1) { prs := l } (.slice va l.length vc))
  have HBe := Lib.hid (six_below HB1.out (b := w.heap.size + 1) (by omega) { prs := l } (.slice va l.length vc))
  have HRe := Lib.hid (HR1.out.six { prs := l } (.slice va l.length vc))
  generalize six w1 (w.heap.size + 1) { prs := l } (.slice va l.length vc) = we at HBe HRe ⊢
  obtain ⟨g0, g1, g2, g3, g4, g5⟩ := HRe.out.cells
  exact bodyPost_ret (v := .tuple #[.slice va l.length vc, .agg #[.int .i64 0, .bool false, .bool false, .string ⟨#[]⟩, .int .i64 0, (.slice va l.length vc)]]) (by simp [results, Try.results9, go_sem, g0, g1, g2, g3, g4, g5]) rfl ⟨_, _, rfl, HV.out.below HBe.out, HV.out.below HBe.out, HBe.out⟩
set_option maxRecDepth 100000 in
set_option maxHeartbeats 4000000 in
theorem rdo_clear (v : Value) (l : List Pr) (k : Int) (key val old : ByteArray) (w : World) (h : Lst w v l) (hlong : Dc.longB k key val = false) (hk : k = 9) :
    Calls Try.prog 9 #[v, .agg #[.int .i64 k, .string key, .string val, .string old]] w (Does [] { did := true } w) := by
  have HB0 := Lib.hid (two_below w k key val old)
  have HO := Lib.hid (two_op w k key val old)
  have HRp := Lib.hid (two_rp w k key val old)
  have HZ0 := Lib.hid (two_size w k key val old)
  obtain ⟨va, vc, rfl, -⟩ := h
  have hL := rlong_any k key val old (two w k key val old)
  rw [hlong] at hL
  have HL := Lib.hid hL; clear hL
  unfold two at HL
  subst hk
  unfold two at HO HRp HB0 HZ0
  go_enter Try.func9, Try.ntmps9
  go_wp2_with fail
  with_reducible refine HL.out.mono ?_
  rintro e w1 ⟨rfl, hb1⟩
  have HO1 := Lib.hid (HO.out.keep (hb1.block w.heap.size (by simp; omega)))
  have HR1 := Lib.hid (HRp.out.keep (hb1.block (w.heap.size + 1) (by simp)))
  obtain ⟨c0, c1, c2, c3⟩ := HO1.out.cells
  have HB1 := Lib.hid (HB0.out.trans (hb1.mono (by have := HZ0.out; omega)))
  clear hb1
  have HR2 := Lib.hid (HR1.out.keep (Below.heap_alloc w1 (.cells #[] 46) _ (Array.getElem?_eq_some_iff.1 HR1.out).1))
  have HB2 := Lib.hid (HB1.out.alloc HB1.out.size (.cells #[] 46))
  obtain ⟨f0, f1, f2, f3, f4, f5⟩ := HR2.out.cells
  have fz := HR2.out.frozen
  go_wp2
  clear f0 f1 f2 f3 f4 f5 fz
  show bodyPost _ _ _ _ _ (six (w1.alloc (.cells #[] 46)) (w.heap.size + 1) { did := true } (.slice none 0 0))
  have HBe := Lib.hid (six_below HB2.out (b := w.heap.size + 1) (by omega) { did := true } (.slice none 0 0))
  have HRe := Lib.hid (HR2.out.six { did := true } (.slice none 0 0))
  generalize six (w1.alloc (.cells #[] 46)) (w.heap.size + 1) { did := true } (.slice none 0 0) = we at HBe HRe ⊢
  obtain ⟨g0, g1, g2, g3, g4, g5⟩ := HRe.out.cells
  exact bodyPost_ret (v := .tuple #[.slice (some ⟨w1.heap.size, 0, none⟩) 0 0, .agg #[.int .i64 0, .bool false, .bool true, .string ⟨#[]⟩, .int .i64 0, (.slice none 0 0)]]) (by simp [results, Try.results9, go_sem, g0, g1, g2, g3, g4, g5]) rfl ⟨_, _, rfl, ⟨_, _, rfl, .inl rfl⟩, Lst.nil _, HBe.out⟩
end Go.Proofs.Ytigopifioijjlaa
