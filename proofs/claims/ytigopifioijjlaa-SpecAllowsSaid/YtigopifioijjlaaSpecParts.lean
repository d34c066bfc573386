/-
  How lists of pairs, operations and answers lie in memory; the walk of short. By an AI agent.
-/
import Derived.Test.YtigopifioijjlaaDictNew
import Derived.Test.YtigopifioijjlaaSpecMath
import Derived.Laws.StructEq
set_option linter.unusedSimpArgs false
namespace Go.Proofs.Ytigopifioijjlaa
open Go.RowKit
open Dc (Pr Rpl)
theorem Row.raw {B : Nat} {t : TypeId} {w : World} {v : Value} {l : List Pr} (h : Row B t w v l) : w.ownsRow B t 2 v l.length (enc l) := h
/-- Pairs that lie under an address. -/
def Prs (w : World) (A : Option Addr) (ps : List Pr) : Prop :=
  ps = [] ∨ ∃ b off, A = some ⟨b, off, none⟩ ∧ b < w.heap.size ∧ ∀ j (h : j < ps.length), w.cell? ⟨b, off + j * 2, none⟩ = some (.string ps[j].1) ∧ w.cell? ⟨b, off + j * 2 + 1, none⟩ = some (.string ps[j].2)
theorem Prs.at {w : World} {A : Option Addr} {ps : List Pr} (h : Prs w A ps) {k : Nat} (hk : k < ps.length) : ∃ b off, A = some ⟨b, off, none⟩ ∧ ∀ j (hj : j < ps.length) w', Below w.heap.size w w' → w'.cell? ⟨b, off + j * 2, none⟩ = some (.string ps[j].1) ∧ w'.cell? ⟨b, off + j * 2 + 1, none⟩ = some (.string ps[j].2) := by
  rcases h with rfl | ⟨b, off, hA, hb, hc⟩
  · cases hk
  · exact ⟨b, off, hA, fun j hj w' hB => ⟨(hB.cell (p := ⟨b, off + j * 2, none⟩) hb).trans (hc j hj).1, (hB.cell (p := ⟨b, off + j * 2 + 1, none⟩) hb).trans (hc j hj).2⟩⟩
theorem Prs.below {w w' : World} {A : Option Addr} {ps : List Pr} (h : Prs w A ps) (hB : Below w.heap.size w w') : Prs w' A ps := by
  rcases h with rfl | ⟨b, off, hA, hb, hc⟩
  · exact .inl rfl
  · exact .inr ⟨b, off, hA, Nat.lt_of_lt_of_le hb hB.size, fun j hj => ⟨(hB.cell (p := ⟨b, off + j * 2, none⟩) hb).trans (hc j hj).1, (hB.cell (p := ⟨b, off + j * 2 + 1, none⟩) hb).trans (hc j hj).2⟩⟩
/-- A value that is a list of pairs. -/
def Lst (w : World) (v : Value) (l : List Pr) : Prop := ∃ A c, v = .slice A l.length c ∧ Prs w A l
theorem Lst.below {w w' : World} {v : Value} {l : List Pr} (h : Lst w v l) (hB : Below w.heap.size w w') : Lst w' v l :=
  let ⟨A, c, e, hp⟩ := h; ⟨A, c, e, hp.below hB⟩
theorem Lst.alloc {w : World} {v : Value} {l : List Pr} (h : Lst w v l) (o : Obj) : Lst (w.alloc o) v l := h.below ((Below.refl _ w).alloc (Nat.le_refl _) o)
theorem Lst.nil (w : World) : Lst w (.slice none 0 0) [] := ⟨none, 0, rfl, .inl rfl⟩
theorem Lst.of_row {B : Nat} {t : TypeId} {w : World} {v : Value} {l : List Pr} (h : Row B t w v l) : Lst w v l := by
  obtain ⟨a, c, rfl⟩ := h.lens
  refine ⟨a, c, rfl, ?_⟩
  rcases Nat.eq_zero_or_pos l.length with h0 | h0
  · exact .inl (List.eq_nil_of_length_eq_zero h0)
  · obtain ⟨g, c', e⟩ := h.addr h0
    cases e
    refine .inr ⟨g, 0, rfl, (h.lt g rfl).2, fun j hj => ⟨?_, ?_⟩⟩
    · rw [Nat.zero_add]; exact Row.key h hj
    · rw [Nat.zero_add]; exact Row.val h hj
/-- A value that is an answer. -/
def Rep (w : World) (v : Value) (r : Rpl) : Prop := ∃ u, v = .agg #[.int .i64 r.err, .bool r.had, .bool r.did, .string r.val, .int .i64 r.n, u] ∧ Lst w u r.prs
theorem Rep.below {w w' : World} {v : Value} {r : Rpl} (h : Rep w v r) (hB : Below w.heap.size w w') : Rep w' v r :=
  let ⟨u, e, hl⟩ := h; ⟨u, e, hl.below hB⟩
/-- A call answers a list. -/
def Lists (l : List Pr) (w : World) (e : Ending) (w' : World) : Prop := ∃ v, e = .returned v ∧ Lst w' v l ∧ Below w.heap.size w w'
/-- A call answers a list and an answer. -/
def Does (l : List Pr) (r : Rpl) (w : World) (e : Ending) (w' : World) : Prop := ∃ v u, e = .returned (.tuple #[v, .agg #[.int .i64 r.err, .bool r.had, .bool r.did, .string r.val, .int .i64 r.n, u]]) ∧ Lst w' v l ∧ Lst w' u r.prs ∧ Below w.heap.size w w'
/-- A call answers a list and a bool. -/
def May (l : List Pr) (b : Bool) (w : World) (e : Ending) (w' : World) : Prop := ∃ v, e = .returned (.tuple #[v, .bool b]) ∧ Lst w' v l ∧ Below w.heap.size w w'
/-- The same, under a name of its own. -/
def longB' (k : Int) (key val : ByteArray) : Bool := Dc.longB k key val
/-- Are an operation's texts short? -/
def shortB (key val old : ByteArray) : Bool := (decide (key.size < 100) && decide (val.size < 100)) && decide (old.size < 100)
set_option maxHeartbeats 1000000 in
theorem short_any (k : Int) (key val old : ByteArray) (w : World) : Calls Try.prog 7 #[.agg #[.int .i64 k, .string key, .string val, .string old]] w (Gives (.bool (shortB key val old)) w) := by
  have hB := (Below.refl w.heap.size w).alloc (Nat.le_refl _) (.cells #[.int .i64 k, .string key, .string val, .string old] 27)
  by_cases h1 : key.size < 100
  · by_cases h2 : val.size < 100
    · by_cases h3 : old.size < 100
      all_goals
        have e : shortB key val old = decide (old.size < 100) := by simp [shortB, h1, h2]
        rw [e]; clear e
        go_enter Try.func7, Try.ntmps7
        go_wp2
        go_ret
        exact ⟨by simp [h3]; omega, hB⟩
    · have e : shortB key val old = false := by simp [shortB, h2]
      rw [e]; clear e
      go_enter Try.func7, Try.ntmps7
      go_wp2
      go_ret
      exact ⟨rfl, hB⟩
  · have e : shortB key val old = false := by simp [shortB, h1]
    rw [e]; clear e
    go_enter Try.func7, Try.ntmps7
    go_wp2
    go_ret
    exact ⟨rfl, hB⟩
end Go.Proofs.Ytigopifioijjlaa
