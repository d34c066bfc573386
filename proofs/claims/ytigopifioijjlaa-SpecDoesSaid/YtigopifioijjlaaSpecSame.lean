/-
  The walks of Same of answers, the program's and the document's. By an AI agent.
-/
import Derived.Test.YtigopifioijjlaaSpecEq
set_option linter.unusedSimpArgs false
namespace Go.Proofs.Ytigopifioijjlaa
open Go.RowKit
open Dc (Pr Rpl)
theorem same_parts {a b : Rpl} : Dc.sameB a b = (((((a.err == b.err && a.had == b.had) && a.did == b.did) && (a.val.toList == b.val.toList)) && a.n == b.n) && Dc.eqB a.prs b.prs) := rfl
/-- The two boxes. -/
def box2 (w : World) (a b : Rpl) (u v : Value) : World := (w.alloc (.cells #[.int .i64 a.err, .bool a.had, .bool a.did, .string a.val, .int .i64 a.n, u] 30)).alloc (.cells #[.int .i64 b.err, .bool b.had, .bool b.did, .string b.val, .int .i64 b.n, v] 30)
theorem box2_below (w : World) (a b : Rpl) (u v : Value) : Below w.heap.size w (box2 w a b u v) := ((Below.refl _ w).alloc (Nat.le_refl _) _).alloc (by simp) _
set_option maxHeartbeats 4000000 in
theorem rsm_any (a b : Rpl) (u v : Value) (w : World) (hu : Lst w u a.prs) (hv : Lst w v b.prs) (hl : a.prs.length ≤ 1000000) :
    Calls Try.prog 11 #[.agg #[.int .i64 a.err, .bool a.had, .bool a.did, .string a.val, .int .i64 a.n, u], .agg #[.int .i64 b.err, .bool b.had, .bool b.did, .string b.val, .int .i64 b.n, v]] w (Gives (.bool (Dc.sameB a b)) w) := by
  have hB : Below w.heap.size w (box2 w a b u v) := box2_below w a b u v
  have HE := Lib.hid (rsame_any u v a.prs b.prs (box2 w a b u v) (hu.below hB) (hv.below hB) hl)
  obtain ⟨ua, uc, rfl, -⟩ := hu
  obtain ⟨wa, wc, rfl, -⟩ := hv
  have HB := Lib.hid hB; clear hB
  have HS := Lib.hid (same_parts (a := a) (b := b))
  obtain ⟨e1, h1, d1, s1, n1, l1⟩ := a
  obtain ⟨e2, h2, d2, s2, n2, l2⟩ := b
  dsimp only at *
  cases c1 : (e1 == e2)
  · go_enter Try.func11, Try.ntmps11
    go_wp2
    go_ret
    exact ⟨by rw [HS.out, c1]; rfl, HB.out⟩
  cases c2 : (h1 == h2)
  · go_enter Try.func11, Try.ntmps11
    go_wp2
    go_ret
    exact ⟨by rw [HS.out, c1, c2]; rfl, HB.out⟩
  cases c3 : (d1 == d2)
  · go_enter Try.func11, Try.ntmps11
    go_wp2
    go_ret
    exact ⟨by rw [HS.out, c1, c2, c3]; rfl, HB.out⟩
  cases c4 : (s1.toList == s2.toList)
  · go_enter Try.func11, Try.ntmps11
    go_wp2
    go_ret
    exact ⟨by rw [HS.out, c1, c2, c3, c4]; rfl, HB.out⟩
  cases c5 : (n1 == n2)
  · go_enter Try.func11, Try.ntmps11
    go_wp2
    go_ret
    exact ⟨by rw [HS.out, c1, c2, c3, c4, c5]; rfl, HB.out⟩
  generalize hx : Dc.eqB l1 l2 = x at *
  have Hx := Lib.hid hx; clear hx
  go_enter Try.func11, Try.ntmps11
  go_wp2_with fail
  refine (HE.out).mono ?_
  rintro e w1 ⟨rfl, hb⟩
  go_wp2
  go_ret
  exact ⟨by rw [HS.out, c1, c2, c3, c4, c5]; rfl, HB.out.trans (hb.mono HB.out.size)⟩
set_option maxHeartbeats 4000000 in
theorem sm_any (a b : Rpl) (u v : Value) (w : World) (hu : Lst w u a.prs) (hv : Lst w v b.prs) (hl : a.prs.length ≤ 1000000) :
    Calls Try.prog 18 #[.agg #[.int .i64 a.err, .bool a.had, .bool a.did, .string a.val, .int .i64 a.n, u], .agg #[.int .i64 b.err, .bool b.had, .bool b.did, .string b.val, .int .i64 b.n, v]] w (Gives (.bool (Dc.sameB a b)) w) := by
  have hB : Below w.heap.size w (box2 w a b u v) := box2_below w a b u v
  have HE := Lib.hid (equal_any u v a.prs b.prs (box2 w a b u v) (hu.below hB) (hv.below hB) hl)
  obtain ⟨ua, uc, rfl, -⟩ := hu
  obtain ⟨wa, wc, rfl, -⟩ := hv
  have HB := Lib.hid hB; clear hB
  have HS := Lib.hid (same_parts (a := a) (b := b))
  obtain ⟨e1, h1, d1, s1, n1, l1⟩ := a
  obtain ⟨e2, h2, d2, s2, n2, l2⟩ := b
  dsimp only at *
  cases c1 : (e1 == e2)
  · go_enter Try.func18, Try.ntmps18
    go_wp2
    go_ret
    exact ⟨by rw [HS.out, c1]; rfl, HB.out⟩
  cases c2 : (h1 == h2)
  · go_enter Try.func18, Try.ntmps18
    go_wp2
    go_ret
    exact ⟨by rw [HS.out, c1, c2]; rfl, HB.out⟩
  cases c3 : (d1 == d2)
  · go_enter Try.func18, Try.ntmps18
    go_wp2
    go_ret
    exact ⟨by rw [HS.out, c1, c2, c3]; rfl, HB.out⟩
  cases c4 : (s1.toList == s2.toList)
  · go_enter Try.func18, Try.ntmps18
    go_wp2
    go_ret
    exact ⟨by rw [HS.out, c1, c2, c3, c4]; rfl, HB.out⟩
  cases c5 : (n1 == n2)
  · go_enter Try.func18, Try.ntmps18
    go_wp2
    go_ret
    exact ⟨by rw [HS.out, c1, c2, c3, c4, c5]; rfl, HB.out⟩
  generalize hx : Dc.eqB l1 l2 = x at *
  have Hx := Lib.hid hx; clear hx
  go_enter Try.func18, Try.ntmps18
  go_wp2_with fail
  refine (HE.out).mono ?_
  rintro e w1 ⟨rfl, hb⟩
  go_wp2
  go_ret
  exact ⟨by rw [HS.out, c1, c2, c3, c4, c5]; rfl, HB.out.trans (hb.mono HB.out.size)⟩
end Go.Proofs.Ytigopifioijjlaa
