/-
  LaneFinds for every list of numbers that may be asked for. By an AI agent.
-/
import Derived.Test.YtjfajnnbmlhpdaaLaneFindsNone
import Derived.Test.YtjfajnnbmlhpdaaLaneFindsSome
namespace Go.Proofs.Ytjfajnnbmlhpdaa
open Go.RowKit
theorem finds_any (x a : Int) (b off n c : Nat) (zs : List Int) (w : World) (hx0 : 0 ≤ x) (hx1 : x ≤ 18446744073709551615) (hz : n ≤ zs.length) (hn0 : 0 < n) (hn1 : n ≤ 20) (hb : b < w.heap.size)
    (hc : ∀ j, j < zs.length → w.cell? ⟨b, off + j, none⟩ = some (.int .i64 (zs.getD j 0))) :
    Calls Try.prog 4 #[.int .u64 x, .int .i64 a, .slice (some ⟨b, off, none⟩) n c] w (Says true w) := by
  have hbl : (zs.take n).length = n := by simp; omega
  have hs : Sl w w.heap.size (some ⟨b, off, none⟩) (zs.take n) := by
    refine .inr ⟨b, off, rfl, hb, fun j hj => ?_⟩
    have hj' : j < zs.length := by omega
    rw [hc j hj']
    simp [List.getElem_take, hj']
  have g0 : w.cell? ⟨b, off, none⟩ = some (.int .i64 (zs.getD 0 0)) := by have := hc 0 (by omega); simpa using this
  have gl := hc (n - 1) (by omega)
  generalize zs.getD 0 0 = b0 at g0
  generalize zs.getD (n - 1) 0 = bl at gl
  have H5 : ∀ w', Below w.heap.size w w' → Calls Try.prog 11 #[.int .u64 x, .int .i64 a, .slice (some ⟨b, off, none⟩) n c] w' (GivesInt (Ln.fst x a (zs.take n)) w') := fun w' h => by
    have := first_any x a (zs.take n) (some ⟨b, off, none⟩) c hx0 hx1 (by omega) w' ((hs.below h).mono h.size)
    rwa [hbl] at this
  have H6 : ∀ w', Below w.heap.size w w' → Calls Try.prog 17 #[.int .u64 x, .int .i64 a, .slice (some ⟨b, off, none⟩) n c] w' (GivesInt (Ln.fst x a (zs.take n)) w') := fun w' h => by
    have := rfirst_any x a (zs.take n) (some ⟨b, off, none⟩) c w' hx0 hx1 (by omega) ((hs.below h).mono h.size)
    rwa [hbl] at this
  have H1 : ∀ w, Calls Try.prog 12 #[.int .u64 x, .int .i64 b0] w (RowOf (asI (Ln.plc x b0)) w) := fun w => rplaces_any x b0 w hx0 hx1
  have H2 := lplaces_any x b0 hx0 hx1
  have H3 := lfirst_any x b0 hx0 hx1
  have H4 : ∀ w, Calls Try.prog 16 #[.int .u64 x, .int .i64 b0] w (GivesInt (asI (Ln.plc x b0)).length w) := fun w => by rw [asI_len]; exact count_any x b0 hx0 hx1 w
  have H7 := fill_any x b0 bl hx0 hx1
  have H8 := fun w => rfill_any x b0 bl w hx0 hx1
  have hl8 : (asI (Ln.plc x b0)).length ≤ 8 := by rw [asI_len]; exact Ln.plc_len x b0
  generalize hp : Ln.plc x b0 = p at *
  cases p with
  | nil => exact finds_none x a b0 bl _ _ (asI []) b off n c w hn0 hn1 hb g0 gl hl8 (by simp [asI]) H1 H2 H3 H4 H5 H6 H7 H8
  | cons y ys => exact finds_some x a b0 bl (y : Int) _ _ (asI (y :: ys)) b off n c w hn0 hn1 hb g0 gl hl8 ⟨asI ys, rfl⟩ H1 H2 H3 H4 H5 H6 H7 H8
end Go.Proofs.Ytjfajnnbmlhpdaa
