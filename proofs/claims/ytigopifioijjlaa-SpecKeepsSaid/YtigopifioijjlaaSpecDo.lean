/-
  The walk of Do, the program's. By an AI agent.
-/
import Derived.Test.YtigopifioijjlaaSpecDoKey
import Derived.Test.YtigopifioijjlaaSpecLists
import Derived.Test.YtigopifioijjlaaSpecLong
set_option linter.unusedSimpArgs false
namespace Go.Proofs.Ytigopifioijjlaa
open Go.RowKit
open Dc (Pr Rpl)
set_option maxRecDepth 100000 in
set_option maxHeartbeats 4000000 in
theorem do_long (v : Value) (l : List Pr) (k : Int) (key val old : ByteArray) (w : World) (h : Lst w v l) (hl : l.length ≤ 1000) (hlong : Dc.longB k key val = true) :
    Calls Try.prog 8 #[v, .agg #[.int .i64 k, .string key, .string val, .string old]] w (Does l { err := 11 } w) := by
  have hB0 := two_below w k key val old
  have HO := Lib.hid (two_op w k key val old)
  have HRp := Lib.hid (two_rp w k key val old)
  have HZ0 := Lib.hid (two_size w k key val old)
  have hL := long_any k key val old (two w k key val old)
  rw [hlong] at hL
  have HL := Lib.hid hL; clear hL
  have HV := Lib.hid (h.below hB0)
  obtain ⟨va, vc, rfl, -⟩ := h
  have HB0 := Lib.hid hB0; clear hB0
  unfold two at HL HV HO HRp HB0 HZ0
  go_enter Try.func8, Try.ntmps8
  go_wp2_with fail
  with_reducible refine HL.out.mono ?_
  rintro e w1 ⟨rfl, hb1⟩
  have HV1 := Lib.hid (HV.out.below hb1)
  have HO1 := Lib.hid (HO.out.keep (hb1.block w.heap.size (by simp; omega)))
  have HR1 := Lib.hid (HRp.out.keep (hb1.block (w.heap.size + 1) (by simp)))
  obtain ⟨c0, c1, c2, c3⟩ := HO1.out.cells
  have HB1 := Lib.hid (HB0.out.trans (hb1.mono (by have := HZ0.out; omega)))
  have hz1 := hb1.size
  simp only [World.size_alloc] at hz1
  clear hb1
  have HC2 := Lib.hid (aclone_any _ l w1 HV1.out (by omega))
  go_wp2_with fail
  with_reducible refine HC2.out.mono ?_
  rintro e w2 ⟨v2, rfl, hr2, hb2⟩
  have HR2 := Lib.hid (HR1.out.keep (hb2.block (w.heap.size + 1) (by omega)))
  have HB2 := Lib.hid (HB1.out.trans (hb2.mono (HB1.out.size)))
  have HW2 := Lib.hid hr2
  have HV2 := Lib.hid (HV1.out.below hb2)
  have hz2 := hb2.size
  obtain ⟨f0, f1, f2, f3, f4, f5⟩ := HR2.out.cells
  have fz := HR2.out.frozen
  clear hr2 hb2
  go_wp2
  clear f0 f1 f2 f3 f4 f5 fz
  show bodyPost _ _ _ _ _ (six w2 (w.heap.size + 1) { err := 11 } (.slice none 0 0))
  have HBe := Lib.hid (six_below HB2.out (b := w.heap.size + 1) (by omega) { err := 11 } (.slice none 0 0))
  have HRe := Lib.hid (HR2.out.six { err := 11 } (.slice none 0 0))
  have HLe0 := Lib.hid ((HW2.out).six HR2.out { err := 11 } (.slice none 0 0))
  generalize six w2 (w.heap.size + 1) { err := 11 } (.slice none 0 0) = we at HBe HRe HLe0 ⊢
  obtain ⟨g0, g1, g2, g3, g4, g5⟩ := HRe.out.cells
  exact bodyPost_ret (v := .tuple #[v2, .agg #[.int .i64 11, .bool false, .bool false, .string ⟨#[]⟩, .int .i64 0, (.slice none 0 0)]]) (by simp [results, Try.results8, go_sem, g0, g1, g2, g3, g4, g5]) rfl ⟨_, _, rfl, Lst.of_row HLe0.out, Lst.nil _, HBe.out⟩
set_option maxRecDepth 100000 in
set_option maxHeartbeats 4000000 in
theorem do_len (v : Value) (l : List Pr) (k : Int) (key val old : ByteArray) (w : World) (h : Lst w v l) (hl : l.length ≤ 1000) (hlong : Dc.longB k key val = false) (hk : k = 8) :
    Calls Try.prog 8 #[v, .agg #[.int .i64 k, .string key, .string val, .string old]] w (Does l { n := l.length } w) := by
  have hB0 := two_below w k key val old
  have HO := Lib.hid (two_op w k key val old)
  have HRp := Lib.hid (two_rp w k key val old)
  have HZ0 := Lib.hid (two_size w k key val old)
  have hL := long_any k key val old (two w k key val old)
  rw [hlong] at hL
  have HL := Lib.hid hL; clear hL
  have HV := Lib.hid (h.below hB0)
  obtain ⟨va, vc, rfl, -⟩ := h
  have HB0 := Lib.hid hB0; clear hB0
  unfold two at HL HV HO HRp HB0 HZ0
  subst hk
  go_enter Try.func8, Try.ntmps8
  go_wp2_with fail
  with_reducible refine HL.out.mono ?_
  rintro e w1 ⟨rfl, hb1⟩
  have HV1 := Lib.hid (HV.out.below hb1)
  have HO1 := Lib.hid (HO.out.keep (hb1.block w.heap.size (by simp; omega)))
  have HR1 := Lib.hid (HRp.out.keep (hb1.block (w.heap.size + 1) (by simp)))
  obtain ⟨c0, c1, c2, c3⟩ := HO1.out.cells
  have HB1 := Lib.hid (HB0.out.trans (hb1.mono (by have := HZ0.out; omega)))
  have hz1 := hb1.size
  simp only [World.size_alloc] at hz1
  clear hb1
  have HC2 := Lib.hid (aclone_any _ l w1 HV1.out (by omega))
  go_wp2_with fail
  with_reducible refine HC2.out.mono ?_
  rintro e w2 ⟨v2, rfl, hr2, hb2⟩
  have HR2 := Lib.hid (HR1.out.keep (hb2.block (w.heap.size + 1) (by omega)))
  have HB2 := Lib.hid (HB1.out.trans (hb2.mono (HB1.out.size)))
  have HW2 := Lib.hid hr2
  have HV2 := Lib.hid (HV1.out.below hb2)
  have hz2 := hb2.size
  obtain ⟨f0, f1, f2, f3, f4, f5⟩ := HR2.out.cells
  have fz := HR2.out.frozen
  clear hr2 hb2
  go_wp2
  clear f0 f1 f2 f3 f4 f5 fz
  show bodyPost _ _ _ _ _ (six w2 (w.heap.size + 1) { n := l.length } (.slice none 0 0))
  have HBe := Lib.hid (six_below HB2.out (b := w.heap.size + 1) (by omega) { n := l.length } (.slice none 0 0))
  have HRe := Lib.hid (HR2.out.six { n := l.length } (.slice none 0 0))
  have HLe0 := Lib.hid ((HW2.out).six HR2.out { n := l.length } (.slice none 0 0))
  generalize six w2 (w.heap.size + 1) { n := l.length } (.slice none 0 0) = we at HBe HRe HLe0 ⊢
  obtain ⟨g0, g1, g2, g3, g4, g5⟩ := HRe.out.cells
  exact bodyPost_ret (v := .tuple #[v2, .agg #[.int .i64 0, .bool false, .bool false, .string ⟨#[]⟩, .int .i64 (l.length : Int), (.slice none 0 0)]]) (by simp [results, Try.results8, go_sem, g0, g1, g2, g3, g4, g5]) rfl ⟨_, _, rfl, Lst.of_row HLe0.out, Lst.nil _, HBe.out⟩
set_option maxRecDepth 100000 in
set_option maxHeartbeats 4000000 in
theorem do_flush (v : Value) (l : List Pr) (k : Int) (key val old : ByteArray) (w : World) (h : Lst w v l) (hl : l.length ≤ 1000) (hlong : Dc.longB k key val = false) (hk : k = 11) :
    Calls Try.prog 8 #[v, .agg #[.int .i64 k, .string key, .string val, .string old]] w (Does l {} w) := by
  have hB0 := two_below w k key val old
  have HO := Lib.hid (two_op w k key val old)
  have HRp := Lib.hid (two_rp w k key val old)
  have HZ0 := Lib.hid (two_size w k key val old)
  have hL := long_any k key val old (two w k key val old)
  rw [hlong] at hL
  have HL := Lib.hid hL; clear hL
  have HV := Lib.hid (h.below hB0)
  obtain ⟨va, vc, rfl, -⟩ := h
  have HB0 := Lib.hid hB0; clear hB0
  unfold two at HL HV HO HRp HB0 HZ0
  subst hk
  go_enter Try.func8, Try.ntmps8
  go_wp2_with fail
  with_reducible refine HL.out.mono ?_
  rintro e w1 ⟨rfl, hb1⟩
  have HV1 := Lib.hid (HV.out.below hb1)
  have HO1 := Lib.hid (HO.out.keep (hb1.block w.heap.size (by simp; omega)))
  have HR1 := Lib.hid (HRp.out.keep (hb1.block (w.heap.size + 1) (by simp)))
  obtain ⟨c0, c1, c2, c3⟩ := HO1.out.cells
  have HB1 := Lib.hid (HB0.out.trans (hb1.mono (by have := HZ0.out; omega)))
  have hz1 := hb1.size
  simp only [World.size_alloc] at hz1
  clear hb1
  have HC2 := Lib.hid (aclone_any _ l w1 HV1.out (by omega))
  go_wp2_with fail
  with_reducible refine HC2.out.mono ?_
  rintro e w2 ⟨v2, rfl, hr2, hb2⟩
  have HR2 := Lib.hid (HR1.out.keep (hb2.block (w.heap.size + 1) (by omega)))
  have HB2 := Lib.hid (HB1.out.trans (hb2.mono (HB1.out.size)))
  have HW2 := Lib.hid hr2
  have HV2 := Lib.hid (HV1.out.below hb2)
  have hz2 := hb2.size
  obtain ⟨f0, f1, f2, f3, f4, f5⟩ := HR2.out.cells
  have fz := HR2.out.frozen
  clear hr2 hb2
  go_wp2
  clear f0 f1 f2 f3 f4 f5 fz
  show bodyPost _ _ _ _ _ (six w2 (w.heap.size + 1) {} (.slice none 0 0))
  have HBe := Lib.hid (six_below HB2.out (b := w.heap.size + 1) (by omega) {} (.slice none 0 0))
  have HRe := Lib.hid (HR2.out.six {} (.slice none 0 0))
  have HLe0 := Lib.hid ((HW2.out).six HR2.out {} (.slice none 0 0))
  generalize six w2 (w.heap.size + 1) {} (.slice none 0 0) = we at HBe HRe HLe0 ⊢
  obtain ⟨g0, g1, g2, g3, g4, g5⟩ := HRe.out.cells
  exact bodyPost_ret (v := .tuple #[v2, .agg #[.int .i64 0, .bool false, .bool false, .string ⟨#[]⟩, .int .i64 0, (.slice none 0 0)]]) (by simp [results, Try.results8, go_sem, g0, g1, g2, g3, g4, g5]) rfl ⟨_, _, rfl, Lst.of_row HLe0.out, Lst.nil _, HBe.out⟩
set_option maxRecDepth 100000 in
set_option maxHeartbeats 4000000 in
theorem do_range (v : Value) (l : List Pr) (k : Int) (key val old : ByteArray) (w : World) (h : Lst w v l) (hl : l.length ≤ 1000) (hlong : Dc.longB k key val = false) (hk : k = 10) :
    Calls Try.prog 8 #[v, .agg #[.int .i64 k, .string key, .string val, .string old]] w (Does l { prs := l } w) := by
  have hB0 := two_below w k key val old
  have HO := Lib.hid (two_op w k key val old)
  have HRp := Lib.hid (two_rp w k key val old)
  have HZ0 := Lib.hid (two_size w k key val old)
  have hL := long_any k key val old (two w k key val old)
  rw [hlong] at hL
  have HL := Lib.hid hL; clear hL
  have HV := Lib.hid (h.below hB0)
  obtain ⟨va, vc, rfl, -⟩ := h
  have HB0 := Lib.hid hB0; clear hB0
  unfold two at HL HV HO HRp HB0 HZ0
  subst hk
  go_enter Try.func8, Try.ntmps8
  go_wp2_with fail
  with_reducible refine HL.out.mono ?_
  rintro e w1 ⟨rfl, hb1⟩
  have HV1 := Lib.hid (HV.out.below hb1)
  have HO1 := Lib.hid (HO.out.keep (hb1.block w.heap.size (by simp; omega)))
  have HR1 := Lib.hid (HRp.out.keep (hb1.block (w.heap.size + 1) (by simp)))
  obtain ⟨c0, c1, c2, c3⟩ := HO1.out.cells
  have HB1 := Lib.hid (HB0.out.trans (hb1.mono (by have := HZ0.out; omega)))
  have hz1 := hb1.size
  simp only [World.size_alloc] at hz1
  clear hb1
  have HC2 := Lib.hid (aclone_any _ l w1 HV1.out (by omega))
  go_wp2_with fail
  with_reducible refine HC2.out.mono ?_
  rintro e w2 ⟨v2, rfl, hr2, hb2⟩
  have HR2 := Lib.hid (HR1.out.keep (hb2.block (w.heap.size + 1) (by omega)))
  have HB2 := Lib.hid (HB1.out.trans (hb2.mono (HB1.out.size)))
  have HW2 := Lib.hid hr2
  have HV2 := Lib.hid (HV1.out.below hb2)
  have hz2 := hb2.size
  clear hr2 hb2
  have HC3 := Lib.hid (aclone_any _ l w2 HV2.out (by omega))
  go_wp2_with fail
  with_reducible refine HC3.out.mono ?_
  rintro e w3 ⟨v3, rfl, hr3, hb3⟩
  obtain ⟨a3, c3, rfl⟩ := hr3.lens
  have HR3 := Lib.hid (HR2.out.keep (hb3.block (w.heap.size + 1) (by omega)))
  have HB3 := Lib.hid (HB2.out.trans (hb3.mono (HB2.out.size)))
  have HW3 := Lib.hid hr3
  have HV3 := Lib.hid (HV2.out.below hb3)
  have hz3 := hb3.size
  have HW2' : Hid (Row w1.heap.size 46 w3 v2 l) := Lib.hid (own_below HW2.out hb3 (Nat.le_refl _))
  obtain ⟨f0, f1, f2, f3, f4, f5⟩ := HR3.out.cells
  have fz := HR3.out.frozen
  clear hr3 hb3
  go_wp2
  clear f0 f1 f2 f3 f4 f5 fz
  show bodyPost _ _ _ _ _ (six w3 (w.heap.size + 1) { prs := l } (.slice a3 l.length c3))
  have HBe := Lib.hid (six_below HB3.out (b := w.heap.size + 1) (by omega) { prs := l } (.slice a3 l.length c3))
  have HRe := Lib.hid (HR3.out.six { prs := l } (.slice a3 l.length c3))
  have HLe0 := Lib.hid ((HW3.out).six HR3.out { prs := l } (.slice a3 l.length c3))
  have HLe1 := Lib.hid ((HW2'.out).six HR3.out { prs := l } (.slice a3 l.length c3))
  generalize six w3 (w.heap.size + 1) { prs := l } (.slice a3 l.length c3) = we at HBe HRe HLe0 HLe1 ⊢
  obtain ⟨g0, g1, g2, g3, g4, g5⟩ := HRe.out.cells
  exact bodyPost_ret (v := .tuple #[v2, .agg #[.int .i64 0, .bool false, .bool false, .string ⟨#[]⟩, .int .i64 0, .slice a3 l.length c3]]) (by simp [results, Try.results8, go_sem, g0, g1, g2, g3, g4, g5]) rfl ⟨_, _, rfl, Lst.of_row HLe1.out, Lst.of_row HLe0.out, HBe.out⟩
set_option maxRecDepth 100000 in
set_option maxHeartbeats 4000000 in
theorem do_clear (v : Value) (l : List Pr) (k : Int) (key val old : ByteArray) (w : World) (h : Lst w v l) (hlong : Dc.longB k key val = false) (hk : k = 9) :
    Calls Try.prog 8 #[v, .agg #[.int .i64 k, .string key, .string val, .string old]] w (Does [] { did := true } w) := by
  have hB0 := two_below w k key val old
  have HO := Lib.hid (two_op w k key val old)
  have HRp := Lib.hid (two_rp w k key val old)
  have HZ0 := Lib.hid (two_size w k key val old)
  have hL := long_any k key val old (two w k key val old)
  rw [hlong] at hL
  have HL := Lib.hid hL; clear hL
  have HV := Lib.hid (h.below hB0)
  obtain ⟨va, vc, rfl, -⟩ := h
  have HB0 := Lib.hid hB0; clear hB0
  unfold two at HL HV HO HRp HB0 HZ0
  subst hk
  go_enter Try.func8, Try.ntmps8
  go_wp2_with fail
  with_reducible refine HL.out.mono ?_
  rintro e w1 ⟨rfl, hb1⟩
  have HV1 := Lib.hid (HV.out.below hb1)
  have HO1 := Lib.hid (HO.out.keep (hb1.block w.heap.size (by simp; omega)))
  have HR1 := Lib.hid (HRp.out.keep (hb1.block (w.heap.size + 1) (by simp)))
  obtain ⟨c0, c1, c2, c3⟩ := HO1.out.cells
  have HB1 := Lib.hid (HB0.out.trans (hb1.mono (by have := HZ0.out; omega)))
  have hz1 := hb1.size
  simp only [World.size_alloc] at hz1
  clear hb1
  obtain ⟨f0, f1, f2, f3, f4, f5⟩ := HR1.out.cells
  have fz := HR1.out.frozen
  go_wp2
  clear f0 f1 f2 f3 f4 f5 fz
  show bodyPost _ _ _ _ _ (six w1 (w.heap.size + 1) { did := true } (.slice none 0 0))
  have HBe := Lib.hid (six_below HB1.out (b := w.heap.size + 1) (by omega) { did := true } (.slice none 0 0))
  have HRe := Lib.hid (HR1.out.six { did := true } (.slice none 0 0))
  generalize six w1 (w.heap.size + 1) { did := true } (.slice none 0 0) = we at HBe HRe ⊢
  obtain ⟨g0, g1, g2, g3, g4, g5⟩ := HRe.out.cells
  exact bodyPost_ret (v := .tuple #[.slice none 0 0, .agg #[.int .i64 0, .bool false, .bool true, .string ⟨#[]⟩, .int .i64 0, (.slice none 0 0)]]) (by simp [results, Try.results8, go_sem, g0, g1, g2, g3, g4, g5]) rfl ⟨_, _, rfl, Lst.nil _, Lst.nil _, HBe.out⟩
set_option maxRecDepth 100000 in
set_option maxHeartbeats 4000000 in
theorem do_other (v : Value) (l : List Pr) (k : Int) (key val old : ByteArray) (w : World) (h : Lst w v l) (hl : l.length ≤ 1000) (hlong : Dc.longB k key val = false) (hk : k < 1 ∨ 11 < k) :
    Calls Try.prog 8 #[v, .agg #[.int .i64 k, .string key, .string val, .string old]] w (Does l { err := 2 } w) := by
  have hB0 := two_below w k key val old
  have HO := Lib.hid (two_op w k key val old)
  have HRp := Lib.hid (two_rp w k key val old)
  have HZ0 := Lib.hid (two_size w k key val old)
  have hL := long_any k key val old (two w k key val old)
  rw [hlong] at hL
  have HL := Lib.hid hL; clear hL
  have HV := Lib.hid (h.below hB0)
  obtain ⟨va, vc, rfl, -⟩ := h
  have HB0 := Lib.hid hB0; clear hB0
  unfold two at HL HV HO HRp HB0 HZ0
  have q1 : (k == 1) = false := by simp; omega
  have q2 : (k == 2) = false := by simp; omega
  have q3 : (k == 3) = false := by simp; omega
  have q4 : (k == 4) = false := by simp; omega
  have q5 : (k == 5) = false := by simp; omega
  have q6 : (k == 6) = false := by simp; omega
  have q7 : (k == 7) = false := by simp; omega
  have q8 : (k == 8) = false := by simp; omega
  have q9 : (k == 9) = false := by simp; omega
  have q10 : (k == 10) = false := by simp; omega
  have q11 : (k == 11) = false := by simp; omega
  clear hk
  go_enter Try.func8, Try.ntmps8
  go_wp2_with fail
  with_reducible refine HL.out.mono ?_
  rintro e w1 ⟨rfl, hb1⟩
  have HV1 := Lib.hid (HV.out.below hb1)
  have HO1 := Lib.hid (HO.out.keep (hb1.block w.heap.size (by simp; omega)))
  have HR1 := Lib.hid (HRp.out.keep (hb1.block (w.heap.size + 1) (by simp)))
  obtain ⟨c0, c1, c2, c3⟩ := HO1.out.cells
  have HB1 := Lib.hid (HB0.out.trans (hb1.mono (by have := HZ0.out; omega)))
  have hz1 := hb1.size
  simp only [World.size_alloc] at hz1
  clear hb1
  have HC2 := Lib.hid (aclone_any _ l w1 HV1.out (by omega))
  go_wp2_with fail
  with_reducible refine HC2.out.mono ?_
  rintro e w2 ⟨v2, rfl, hr2, hb2⟩
  have HR2 := Lib.hid (HR1.out.keep (hb2.block (w.heap.size + 1) (by omega)))
  have HB2 := Lib.hid (HB1.out.trans (hb2.mono (HB1.out.size)))
  have HW2 := Lib.hid hr2
  have HV2 := Lib.hid (HV1.out.below hb2)
  have hz2 := hb2.size
  obtain ⟨f0, f1, f2, f3, f4, f5⟩ := HR2.out.cells
  have fz := HR2.out.frozen
  clear hr2 hb2
  go_wp2
  clear f0 f1 f2 f3 f4 f5 fz
  show bodyPost _ _ _ _ _ (six w2 (w.heap.size + 1) { err := 2 } (.slice none 0 0))
  have HBe := Lib.hid (six_below HB2.out (b := w.heap.size + 1) (by omega) { err := 2 } (.slice none 0 0))
  have HRe := Lib.hid (HR2.out.six { err := 2 } (.slice none 0 0))
  have HLe0 := Lib.hid ((HW2.out).six HR2.out { err := 2 } (.slice none 0 0))
  generalize six w2 (w.heap.size + 1) { err := 2 } (.slice none 0 0) = we at HBe HRe HLe0 ⊢
  obtain ⟨g0, g1, g2, g3, g4, g5⟩ := HRe.out.cells
  exact bodyPost_ret (v := .tuple #[v2, .agg #[.int .i64 2, .bool false, .bool false, .string ⟨#[]⟩, .int .i64 0, (.slice none 0 0)]]) (by simp [results, Try.results8, go_sem, g0, g1, g2, g3, g4, g5]) rfl ⟨_, _, rfl, Lst.of_row HLe0.out, Lst.nil _, HBe.out⟩
set_option maxRecDepth 100000 in
set_option maxHeartbeats 4000000 in
theorem do_key (v : Value) (l : List Pr) (k : Int) (key val old : ByteArray) (w : World) (h : Lst w v l) (hl : l.length ≤ 1000) (hlong : Dc.longB k key val = false) (hs : Dc.Srt l) (hk : 1 ≤ k ∧ k ≤ 7) :
    Calls Try.prog 8 #[v, .agg #[.int .i64 k, .string key, .string val, .string old]] w (Does (Dc.keyM l k key val old) (Dc.keyR l k key old) w) := by
  have hB0 := two_below w k key val old
  have HO := Lib.hid (two_op w k key val old)
  have HRp := Lib.hid (two_rp w k key val old)
  have HZ0 := Lib.hid (two_size w k key val old)
  have hL := long_any k key val old (two w k key val old)
  rw [hlong] at hL
  have HL := Lib.hid hL; clear hL
  have HV := Lib.hid (h.below hB0)
  obtain ⟨va, vc, rfl, -⟩ := h
  have HB0 := Lib.hid hB0; clear hB0
  unfold two at HL HV HO HRp HB0 HZ0
  have hK : ∀ w1, Lst w1 (.slice va l.length vc) l → Calls Try.prog 22 #[.slice va l.length vc, .agg #[.int .i64 k, .string key, .string val, .string old]] w1 (Keys (Dc.keyM l k key val old) (Dc.keyR l k key old) w1) := fun w1 h1 => doKey_any _ l k key val old w1 h1 hl hs hk
  have HK := Lib.hid hK; clear hK
  have hkr : (Dc.keyR l k key old).prs = [] := rfl
  generalize Dc.keyM l k key val old = m at *
  generalize Dc.keyR l k key old = r at *
  obtain ⟨re, rh, rd, rs, rn, rp⟩ := r
  dsimp only at hkr
  subst hkr
  have hk' : k = 1 ∨ k = 2 ∨ k = 3 ∨ k = 4 ∨ k = 5 ∨ k = 6 ∨ k = 7 := by omega
  clear hk
  rcases hk' with rfl | rfl | rfl | rfl | rfl | rfl | rfl
  all_goals
    go_enter Try.func8, Try.ntmps8
    go_wp2_with fail
    with_reducible refine HL.out.mono ?_
    rintro e w1 ⟨rfl, hb1⟩
    have HV1 := Lib.hid (HV.out.below hb1)
    have HO1 := Lib.hid (HO.out.keep (hb1.block w.heap.size (by simp; omega)))
    have HR1 := Lib.hid (HRp.out.keep (hb1.block (w.heap.size + 1) (by simp)))
    obtain ⟨c0, c1, c2, c3⟩ := HO1.out.cells
    have HB1 := Lib.hid (HB0.out.trans (hb1.mono (by have := HZ0.out; omega)))
    have hz1 := hb1.size
    simp only [World.size_alloc] at hz1
    clear hb1
    have HK1 := Lib.hid (HK.out w1 HV1.out)
    go_wp2_with fail
    with_reducible refine HK1.out.mono ?_
    rintro e w2 ⟨v2, rfl, hr2, hb2⟩
    have HW2 := Lib.hid hr2; clear hr2
    have HR2 := Lib.hid (HR1.out.keep (hb2.block (w.heap.size + 1) (by omega)))
    have HB2 := Lib.hid (HB1.out.trans (hb2.mono (HB1.out.size)))
    obtain ⟨f0, f1, f2, f3, f4, f5⟩ := HR2.out.cells
    have fz := HR2.out.frozen
    clear hb2
    go_wp2
    clear f0 f1 f2 f3 f4 f5 fz
    show bodyPost _ _ _ _ _ (six w2 (w.heap.size + 1) ⟨re, rh, rd, rs, rn, []⟩ (.slice none 0 0))
    have HBe := Lib.hid (six_below HB2.out (b := w.heap.size + 1) (by omega) ⟨re, rh, rd, rs, rn, []⟩ (.slice none 0 0))
    have HRe := Lib.hid (HR2.out.six ⟨re, rh, rd, rs, rn, []⟩ (.slice none 0 0))
    have HLe0 := Lib.hid ((HW2.out).six HR2.out ⟨re, rh, rd, rs, rn, []⟩ (.slice none 0 0))
    generalize six w2 (w.heap.size + 1) ⟨re, rh, rd, rs, rn, []⟩ (.slice none 0 0) = we at HBe HRe HLe0 ⊢
    obtain ⟨g0, g1, g2, g3, g4, g5⟩ := HRe.out.cells
    exact bodyPost_ret (v := .tuple #[v2, .agg #[.int .i64 re, .bool rh, .bool rd, .string rs, .int .i64 rn, .slice none 0 0]]) (by simp [results, Try.results8, go_sem, g0, g1, g2, g3, g4, g5]) rfl ⟨_, _, rfl, Lst.of_row HLe0.out, Lst.nil _, HBe.out⟩
/-- Do: of a map, whatever the operation. -/
theorem do_any (v : Value) (l : List Pr) (k : Int) (key val old : ByteArray) (w : World) (h : Lst w v l) (hl : l.length ≤ 1000) (hs : Dc.Srt l) :
    Calls Try.prog 8 #[v, .agg #[.int .i64 k, .string key, .string val, .string old]] w (Does (Dc.doM l k key val old) (Dc.doR l k key val old) w) := by
  unfold Dc.doM Dc.doR
  cases hlong : Dc.longB k key val
  · simp only [Bool.false_eq_true, if_false]
    by_cases hk : 1 ≤ k ∧ k ≤ 7
    · rw [if_pos hk, if_pos hk]; exact do_key v l k key val old w h hl hlong hs hk
    rw [if_neg hk, if_neg hk]
    by_cases h8 : k = 8
    · rw [if_neg (by omega), if_pos h8]; exact do_len v l k key val old w h hl hlong h8
    rw [if_neg h8]
    by_cases h9 : k = 9
    · rw [if_pos h9, if_pos h9]; exact do_clear v l k key val old w h hlong h9
    rw [if_neg h9, if_neg h9]
    by_cases h10 : k = 10
    · rw [if_pos h10]; exact do_range v l k key val old w h hl hlong h10
    rw [if_neg h10]
    by_cases h11 : k = 11
    · rw [if_pos h11]; exact do_flush v l k key val old w h hl hlong h11
    rw [if_neg h11]; exact do_other v l k key val old w h hl hlong (by omega)
  · simp only [if_true]; exact do_long v l k key val old w h hl hlong
end Go.Proofs.Ytigopifioijjlaa
