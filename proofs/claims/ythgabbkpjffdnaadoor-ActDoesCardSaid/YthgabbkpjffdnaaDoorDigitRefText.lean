/-
  The walks of the document's own tail, Show and Print. By an AI agent.
-/
import Derived.Test.YthgabbkpjffdnaaDoorChecked
import Derived.Test.YthgabbkpjffdnaaDoorDigitMath
import Derived.WalkKit
import Derived.WalkSpells
import Derived.WalkLawsBesides
import Derived.WalkMore
import Derived.Below
import Derived.Lib.Hide
import Derived.Deep.RegionWith
import Derived.Deep.RegionHeld3
import Derived.StillTailTactics
namespace Go.Proofs.YthgabbkpjffdnaaDoor.Dt
open Go.RowKit
def Text (l : List UInt8) (w : World) (e : Ending) (w' : World) : Prop := e = .returned (.string ⟨l.toArray⟩) ∧ Below w.heap.size w w'
theorem below_then {w W w' : World} (h1 : Below w.heap.size w W) (h2 : Below W.heap.size W w') : Below w.heap.size w w' := h1.trans (h2.mono h1.size)
theorem text_of {l l' : List UInt8} {w w' : World} (h : l' = l) (hb : Below w.heap.size w w') : Text l w (.returned (.string ⟨l'.toArray⟩)) w' := by subst h; exact ⟨rfl, hb⟩
theorem bcell {W w1 : World} (hb : Below W.heap.size W w1) : ∀ b o, b < W.heap.size → w1.cell? ⟨b, o, none⟩ = W.cell? ⟨b, o, none⟩ :=
  fun b o h => hb.cell (p := ⟨b, o, none⟩) h
/-- One byte as a text. -/
theorem conv1 (v : Int) (h0 : 0 ≤ v) (h1 : v ≤ 255) (W : World) (b o : Nat) (hc : W.cell? ⟨b, o, none⟩ = some (.int .u8 v)) :
    (convert 48 9 (.slice (some ⟨b, o, none⟩) 1 1)).run Tryd.prog W = .ok (.string ⟨[UInt8.ofNat v.toNat].toArray⟩) W := by
  have h := run_convert_bytes_back (P := Tryd.prog) W 48 9 5 ⟨b, o, none⟩ 1 [UInt8.ofNat v.toNat] Tryd.underlying48 Tryd.underlying5 Tryd.underlying9 (fun j hj => by
    have hj0 : j = 0 := by simpa using hj
    subst hj0
    have e : ((UInt8.ofNat v.toNat).toNat : Int) = v := by
      rw [UInt8.toNat_ofNat']
      omega
    simp only [List.getElem_cons_zero]
    rw [e, Lib.add_plain]
    exact hc)
  exact h
set_option maxRecDepth 100000 in
set_option maxHeartbeats 400000 in
theorem tail_small (u : Int) (h0 : 0 ≤ u) (h : u < 10) (w : World) : Calls Tryd.prog 65 #[.int .u64 u] w (Text (Lib.decDigits u.toNat) w) := by
  have hcv := fun (W : World) (b o : Nat) => conv1 (48 + u) (by omega) (by omega) W b o
  go_enter Tryd.func65, Tryd.ntmps65
  go_wp2
  go_ret
  refine text_of (l' := [UInt8.ofNat (48 + u).toNat]) ?_ ((Below.refl _ w).alloc (Nat.le_refl _) _)
  rw [Lib.decDigits_one (show u.toNat < 10 by omega), show (48 + u).toNat = 48 + u.toNat by omega]
set_option maxRecDepth 100000 in
set_option maxHeartbeats 1000000 in
theorem tail_big (u q r : Int) (h0 : 10 ≤ u) (hr0 : 0 ≤ r) (hr9 : r ≤ 9) (hq : IntKind.u64.wrap (u.tdiv 10) = q) (hr : u.tmod 10 = r) (hw1 : IntKind.u64.wrap (48 + r) = 48 + r) (hw2 : IntKind.u8.wrap (48 + r) = 48 + r) (l : List UInt8) (hl : l.length ≤ 30) (w : World) (ih : Hid (∀ w, Calls Tryd.prog 65 #[.int .u64 q] w (Text l w))) : Calls Tryd.prog 65 #[.int .u64 u] w (Text (l ++ [UInt8.ofNat (48 + r).toNat]) w) := by
  have hcv := fun (W : World) (b o : Nat) => conv1 (48 + r) (by omega) (by omega) W b o
  have hd : decide (u < 10) = false := by simp; omega
  have hadd : ∀ W, (Op.stringOp .add ⟨l.toArray⟩ ⟨[UInt8.ofNat (48 + r).toNat].toArray⟩).run Tryd.prog W = .ok (.string ⟨(l ++ [UInt8.ofNat (48 + r).toNat]).toArray⟩) W := fun W => run_string_add_lists W _ _ (by omega) (by simp)
  go_enter Tryd.func65, Tryd.ntmps65
  go_wp2
  go_region_with (go_at_call 65; refine (ih.out _).mono ?_; rintro e w' ⟨rfl, hb⟩; have hcl := bcell hb)
  all_goals go_wp2
  · go_ret
    have hb1 : Below w.heap.size w w' := below_then (Below.refl _ w).drew hb
    exact text_of rfl (hb1.alloc hb1.size _)
  · go_ret
    exact text_of rfl (below_then ((Below.refl _ w).alloc (Nat.le_refl _) _).drew hb)
  · go_ret
    exact text_of rfl (below_then ((Below.refl _ w).alloc (Nat.le_refl _) _).drew hb)
/-- ████ the document's tail: the numeral. ████ -/
theorem tail_nat (u : Nat) : u < 18446744073709551616 → ∀ w, Calls Tryd.prog 65 #[.int .u64 (u : Int)] w (Text (Lib.decDigits u) w) := by
  induction u using Nat.strongRecOn with
  | _ u ih =>
    intro hu w
    by_cases h : u < 10
    · have := tail_small (u : Int) (by omega) (by omega) w
      rw [Int.toNat_natCast] at this
      exact this
    · have h1 := ih (u / 10) (by omega) (by omega)
      have e1 : (u : Int).tdiv 10 = ((u / 10 : Nat) : Int) := rfl
      have e2 : (u : Int).tmod 10 = ((u % 10 : Nat) : Int) := rfl
      have := tail_big (u : Int) ((u / 10 : Nat) : Int) ((u % 10 : Nat) : Int) (by omega) (by omega) (by omega)
        (by rw [e1, IntKind.wrap_u64]; omega) e2 (by rw [IntKind.wrap_u64]; omega) (by rw [IntKind.wrap_u8]; omega) (Lib.decDigits (u / 10))
        (by have := Dg.dec_len_le (u / 10) 20 (by omega) (by have h3 : (10 : Nat) ^ 20 = 100000000000000000000 := by decide
                                                             omega)
            omega) w h1
      rw [Lib.decDigits, dif_neg h]
      rw [show (48 + ((u % 10 : Nat) : Int)).toNat = 48 + u % 10 by omega] at this
      exact this
theorem tail_any (u : Int) (h0 : 0 ≤ u) (h1 : u ≤ 18446744073709551615) (w : World) : Calls Tryd.prog 65 #[.int .u64 u] w (Text (Lib.decDigits u.toNat) w) := by
  obtain ⟨n, rfl⟩ := Int.eq_ofNat_of_zero_le h0
  rw [Int.toNat_natCast]
  exact tail_nat n (by omega) w
set_option maxRecDepth 100000 in
set_option maxHeartbeats 400000 in
/-- ████ the document's Show. ████ -/
theorem rshow_any (u : Int) (h0 : 0 ≤ u) (h1 : u ≤ 18446744073709551615) (w : World) : Calls Tryd.prog 49 #[.int .u64 u] w (Text (Lib.decDigits u.toNat) w) := by
  go_enter Tryd.func49, Tryd.ntmps49
  go_wp2_with (go_at_call 65; refine (tail_any u h0 h1 _).mono ?_; rintro e w' ⟨rfl, hb⟩)
  go_ret
  exact text_of rfl hb
set_option maxRecDepth 100000 in
set_option maxHeartbeats 400000 in
theorem rprint_pos (n : Int) (h0 : 0 ≤ n) (h1 : n ≤ 9223372036854775807) (w : World) : Calls Tryd.prog 50 #[.int .i64 n] w (Text (Lib.itoa n) w) := by
  have HI : Hid (Lib.decDigits n.toNat = Lib.itoa n) := by unfold Hid Lib.itoa; rw [if_neg (by omega)]
  go_enter Tryd.func50, Tryd.ntmps50
  go_wp2_with (go_at_call 65; refine (tail_any n h0 (by omega) _).mono ?_; rintro e w' ⟨rfl, hb⟩)
  go_ret
  exact text_of HI.out hb
set_option maxRecDepth 100000 in
set_option maxHeartbeats 400000 in
theorem rprint_neg (n : Int) (h0 : n < 0) (h1 : -9223372036854775808 ≤ n) (w : World) : Calls Tryd.prog 50 #[.int .i64 n] w (Text (Lib.itoa n) w) := by
  have HI : Hid (45 :: Lib.decDigits n.natAbs = Lib.itoa n) := by unfold Hid Lib.itoa; rw [if_pos (by omega)]
  obtain ⟨l, hl⟩ : ∃ l, Lib.decDigits (-(n + 1) + 1).toNat = l := ⟨_, rfl⟩
  have hll : l.length ≤ 20 := by
    rw [← hl]
    exact Dg.dec_len_le _ 20 (by omega) (by have h3 : (10 : Nat) ^ 20 = 100000000000000000000 := by decide
                                            omega)
  have Hl : Hid (45 :: l = Lib.itoa n) := by
    unfold Hid
    rw [← hl, ← HI.out, show (-(n + 1) + 1).toNat = n.natAbs by omega]
  have hc : ∀ w, Calls Tryd.prog 65 #[.int .u64 (-(n + 1) + 1)] w (Text l w) := fun w => hl ▸ tail_any (-(n + 1) + 1) (by omega) (by omega) w
  have Hc := Lib.hid hc
  have hadd : ∀ W, (Op.stringOp .add ⟨#[45]⟩ ⟨l.toArray⟩).run Tryd.prog W = .ok (.string ⟨(45 :: l).toArray⟩) W := fun W => run_string_add_lists W [45] l (by simp) (by omega)
  clear hl hc HI
  go_enter Tryd.func50, Tryd.ntmps50
  go_wp2_with (go_at_call 65; refine (Hc.out _).mono ?_; rintro e w' ⟨rfl, hb⟩)
  go_ret
  exact text_of Hl.out hb
/-- ████ the document's Print. ████ -/
theorem rprint_any (n : Int) (h0 : -9223372036854775808 ≤ n) (h1 : n ≤ 9223372036854775807) (w : World) : Calls Tryd.prog 50 #[.int .i64 n] w (Text (Lib.itoa n) w) := by
  by_cases h : n < 0
  · exact rprint_neg n h h0 w
  · exact rprint_pos n (by omega) h1 w
end Go.Proofs.YthgabbkpjffdnaaDoor.Dt
