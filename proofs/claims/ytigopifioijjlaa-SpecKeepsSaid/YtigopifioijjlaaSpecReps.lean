/-
  Answers that lie in a row: those that come in, and those that a call puts together. By an AI agent.
-/
import Derived.Test.YtigopifioijjlaaSpecAwake
import Derived.Laws.AppendOwnNone
import Derived.Maps.AppendAt
set_option linter.unusedSimpArgs false
namespace Go.Proofs.Ytigopifioijjlaa
open Go.RowKit
open Dc (Pr Rpl)
/-- An answer, and the value that is its pairs. -/
abbrev Rp := Rpl × Value
/-- The cells of answers that lie in a row. -/
def encR : List Rp → List Value
  | [] => []
  | p :: r => .int .i64 p.1.err :: .bool p.1.had :: .bool p.1.did :: .string p.1.val :: .int .i64 p.1.n :: p.2 :: encR r
theorem encR_len : ∀ l : List Rp, (encR l).length = l.length * 6
  | [] => rfl
  | _ :: r => by simp [encR, encR_len r]; omega
theorem encR_append : ∀ l m : List Rp, encR (l ++ m) = encR l ++ encR m
  | [], _ => rfl
  | p :: r, m => by simp [encR, encR_append r m]
theorem encR_at : ∀ (l : List Rp) (k : Nat) (h : k < l.length), (encR l)[6 * k]? = some (.int .i64 l[k].1.err) ∧ (encR l)[6 * k + 1]? = some (.bool l[k].1.had) ∧ (encR l)[6 * k + 2]? = some (.bool l[k].1.did) ∧ (encR l)[6 * k + 3]? = some (.string l[k].1.val) ∧ (encR l)[6 * k + 4]? = some (.int .i64 l[k].1.n) ∧ (encR l)[6 * k + 5]? = some l[k].2
  | p :: r, 0, _ => ⟨rfl, rfl, rfl, rfl, rfl, rfl⟩
  | p :: r, k + 1, h => by
    obtain ⟨h0, h1, h2, h3, h4, h5⟩ := encR_at r k (by simpa using h)
    refine ⟨?_, ?_, ?_, ?_, ?_, ?_⟩
    · rw [show 6 * (k + 1) = 6 * k + 1 + 1 + 1 + 1 + 1 + 1 by omega]; simpa [encR] using h0
    · rw [show 6 * (k + 1) + 1 = 6 * k + 1 + 1 + 1 + 1 + 1 + 1 + 1 by omega]; simpa [encR] using h1
    · rw [show 6 * (k + 1) + 2 = 6 * k + 2 + 1 + 1 + 1 + 1 + 1 + 1 by omega]; simpa [encR] using h2
    · rw [show 6 * (k + 1) + 3 = 6 * k + 3 + 1 + 1 + 1 + 1 + 1 + 1 by omega]; simpa [encR] using h3
    · rw [show 6 * (k + 1) + 4 = 6 * k + 4 + 1 + 1 + 1 + 1 + 1 + 1 by omega]; simpa [encR] using h4
    · rw [show 6 * (k + 1) + 5 = 6 * k + 5 + 1 + 1 + 1 + 1 + 1 + 1 by omega]; simpa [encR] using h5
theorem encR_one : ∀ (l : List Rp), (∀ p ∈ l, p.2.oneCell' = true) → ∀ u ∈ encR l, u.oneCell' = true
  | p :: r, hl, u, h => by
    simp only [encR, List.mem_cons] at h
    rcases h with rfl | rfl | rfl | rfl | rfl | rfl | h
    · rfl
    · rfl
    · rfl
    · rfl
    · rfl
    · exact hl p (by simp)
    · exact encR_one r (fun q hq => hl q (by simp [hq])) u h
/-- Answers whose pairs lie in memory. -/
def Good (w : World) (rs : List Rp) : Prop := ∀ p ∈ rs, Lst w p.2 p.1.prs
theorem Good.below {w w' : World} {rs : List Rp} (h : Good w rs) (hB : Below w.heap.size w w') : Good w' rs := fun p hp => (h p hp).below hB
theorem Lst.one {w : World} {v : Value} {l : List Pr} (h : Lst w v l) : v.oneCell' = true := by
  obtain ⟨A, c, rfl, -⟩ := h; rfl
/-- Answers that lie under an address. -/
def Reps (w : World) (A : Option Addr) (rs : List Rp) : Prop :=
  rs = [] ∨ ∃ b off, A = some ⟨b, off, none⟩ ∧ b < w.heap.size ∧ ∀ j u, (encR rs)[j]? = some u → w.cell? ⟨b, off + j, none⟩ = some u
theorem Reps.below {w w' : World} {A : Option Addr} {rs : List Rp} (h : Reps w A rs) (hB : Below w.heap.size w w') : Reps w' A rs := by
  rcases h with rfl | ⟨b, off, hA, hb, hc⟩
  · exact .inl rfl
  · exact .inr ⟨b, off, hA, Nat.lt_of_lt_of_le hb hB.size, fun j u hj => (hB.cell (p := ⟨b, off + j, none⟩) hb).trans (hc j u hj)⟩
theorem Reps.cells {w : World} {a : Addr} {rs : List Rp} (h : Reps w (some a) rs) : ∀ j u, (encR rs)[j]? = some u → w.cell? (a.add j) = some u := by
  rcases h with rfl | ⟨b, off, hA, hb, hc⟩
  · intro j u h; simp [encR] at h
  · cases hA
    intro j u hj
    have := hc j u hj
    by_cases h0 : j = 0
    · subst h0; simpa [Addr.add] using this
    · simpa [Addr.add, h0] using this
/-- A row of answers that the call has made. -/
def RowR (B : Nat) (w : World) (v : Value) (l : List Rp) : Prop := w.ownsRow B 30 6 v l.length (encR l)
theorem RowR.addr {B : Nat} {w : World} {v : Value} {l : List Rp} (h : RowR B w v l) (hk : 0 < l.length) : ∃ g c, v = .slice (some ⟨g, 0, none⟩) l.length c := by
  rcases h.2 with ⟨rfl, h0⟩ | ⟨g, cap, cur, rfl, _⟩
  · omega
  · exact ⟨g, cap, rfl⟩
theorem RowR.at {B : Nat} {w' : World} {l : List Rp} {b c : Nat} (h : RowR B w' (.slice (some ⟨b, 0, none⟩) l.length c) l) {k : Nat} (hk : k < l.length) : w'.cell? ⟨b, k * 6, none⟩ = some (.int .i64 l[k].1.err) ∧ w'.cell? ⟨b, k * 6 + 1, none⟩ = some (.bool l[k].1.had) ∧ w'.cell? ⟨b, k * 6 + 2, none⟩ = some (.bool l[k].1.did) ∧ w'.cell? ⟨b, k * 6 + 3, none⟩ = some (.string l[k].1.val) ∧ w'.cell? ⟨b, k * 6 + 4, none⟩ = some (.int .i64 l[k].1.n) ∧ w'.cell? ⟨b, k * 6 + 5, none⟩ = some l[k].2 := by
  obtain ⟨h0, h1, h2, h3, h4, h5⟩ := encR_at l k hk
  refine ⟨?_, ?_, ?_, ?_, ?_, ?_⟩
  · rw [World.ownsRow.cellAt h (k * 6) (by omega), Nat.mul_comm k 6, h0]
  · rw [World.ownsRow.cellAt h (k * 6 + 1) (by omega), Nat.mul_comm k 6, h1]
  · rw [World.ownsRow.cellAt h (k * 6 + 2) (by omega), Nat.mul_comm k 6, h2]
  · rw [World.ownsRow.cellAt h (k * 6 + 3) (by omega), Nat.mul_comm k 6, h3]
  · rw [World.ownsRow.cellAt h (k * 6 + 4) (by omega), Nat.mul_comm k 6, h4]
  · rw [World.ownsRow.cellAt h (k * 6 + 5) (by omega), Nat.mul_comm k 6, h5]
theorem RowR.below {B : Nat} {w w' : World} {v : Value} {l : List Rp} (h : RowR B w v l) (hB : Below w.heap.size w w') : RowR B w' v l := own_below h hB (Nat.le_refl _)
theorem info_reply : (Try.prog.info? 30).map (fun i => (i.zero, i.size, i.bytes)) = some (some (.agg #[.int .i64 0, .bool false, .bool false, .string ⟨#[]⟩, .int .i64 0, .slice none 0 0]), 6, 64) := by kernel_rfl
/-- Answers that are put behind others. -/
theorem append_reps (W : World) (B : Nat) (v : Value) (xs : List Rp) (ra : Option Addr) (rs : List Rp) (rc : Nat) (hown : RowR B W v xs) (hR : Reps W ra rs) (hnil : ra = none → rc = 0) (hG : Good W rs) (hl : xs.length + rs.length ≤ 1000) (hB : B ≤ W.heap.size) (ty : TypeId) :
    ∃ v' w', (Builtin.append_ #[37, 37] ty #[v, .slice ra rs.length rc]).run Try.prog W = .ok v' w' ∧ RowR B w' v' (xs ++ rs) ∧ W.grownBy w' v.ownBlock := by
  obtain ⟨i0, hi, hz0, hz1, hz2⟩ := info_parts info_reply
  rcases ra with _ | a
  · have e0 : rs = [] := by
      rcases hR with h | ⟨_, _, h, _⟩
      · exact h
      · cases h
    subst e0
    rw [hnil rfl]
    exact ⟨v, W, run_append_owned_none (P := Try.prog) W B _ ty 30 i0 6 Try.underlying37 hi v _ _ hown, by simpa using hown, World.grownBy.refl W _⟩
  · obtain ⟨v', w', h1, h2, h3, -⟩ := run_append_own_at (P := Try.prog) W B 37 ty 30 i0 (.agg #[.int .i64 0, .bool false, .bool false, .string ⟨#[]⟩, .int .i64 0, .slice none 0 0]) 6 64 Try.underlying37 hi hz0 hz1 hz2 rfl (by decide) v xs.length (encR xs) hown a rs.length rc (encR rs) (encR_len rs) hR.cells (encR_one rs fun p hp => (hG p hp).one) (by unfold maxLen; omega) (by omega) hB
    exact ⟨v', w', h1, by unfold RowR; rw [List.length_append, encR_append]; exact h2, h3⟩
/-- An append whose run is known, at the operation. -/
theorem wpList_append_run {P : Program} (w : World) {ops : Array Oper} {rest : List Oper} {o : Oper} {a : Act} {Q : Exit → Act → World → Prop} (hgd : o.guard = none) (s x : Operand) (t : TypeId)
    (ho : o.op = .call { callee := .builtin .append, args := #[s, x], argTypes := #[t, t] }) (v u v' : Value) (w' : World) (hs : a.eval s = v) (hx : a.eval x = u)
    (hrun : (Builtin.append_ #[t, t] o.type #[v, u]).run P w = .ok v' w') (h : wpList P ops Q rest (a.put o.dst v') w') : wpList P ops Q (o :: rest) a w := by
  refine wpList_plain hgd fun K hK => ?_
  unfold Oper.wp
  simp [execOp, ho, resolve, invoke, builtin, hs, hx, hrun, Result.andThen]
  exact hK _ _ h
end Go.Proofs.Ytigopifioijjlaa
