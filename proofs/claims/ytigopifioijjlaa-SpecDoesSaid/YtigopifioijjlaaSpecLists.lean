/-
  The walks of slices.Clone and slices.Equal of lists of pairs, of both Rights, and of the document's own Same of lists. By an AI agent.
-/
import Derived.Test.YtigopifioijjlaaSpecParts
set_option linter.unusedSimpArgs false
namespace Go.Proofs.Ytigopifioijjlaa
open Go.RowKit
open Dc (Pr Rpl)
theorem nil_eqA (w : World) (A : Option Addr) (n c : Nat) : (binOp .eql 24 (.slice A n c) (.slice none 0 0)).run Try.prog w = .ok (.bool A.isNone) w := Lib.run_eql_slice_nil w _ _ A n c 0 0 Try.underlying24
theorem Prs.cells {w : World} {a : Addr} {ps : List Pr} (h : Prs w (some a) ps) : ∀ j u, (enc ps)[j]? = some u → w.cell? (a.add j) = some u := by
  intro j u hj
  have hjl := (List.getElem?_eq_some_iff.1 hj).1
  rw [enc_len] at hjl
  rcases h with rfl | ⟨b, off, hA, hb, hc⟩
  · cases hj
  · cases hA
    rw [lit_add]
    obtain ⟨q, rfl | rfl⟩ : ∃ q, j = 2 * q ∨ j = 2 * q + 1 := ⟨j / 2, by omega⟩
    · have hk : q < ps.length := by omega
      rw [enc_key ps q hk] at hj
      cases hj
      rw [Nat.mul_comm 2]
      exact (hc q hk).1
    · have hk : q < ps.length := by omega
      rw [enc_val ps q hk] at hj
      cases hj
      rw [Nat.mul_comm 2, ← Nat.add_assoc]
      exact (hc q hk).2
set_option maxHeartbeats 2000000 in
theorem aclone_any (v : Value) (l : List Pr) (w : World) (h : Lst w v l) (hl : l.length ≤ 1000000) :
    Calls Try.prog 21 #[v] w (Tells l w) := by
  have hnil := nil_eqA
  obtain ⟨A, c, rfl, hp⟩ := h
  rcases A with _ | a
  · have e0 : l = [] := by
      rcases hp with h | ⟨_, _, h, _⟩
      · exact h
      · cases h
    subst e0
    go_enter Try.func21, Try.ntmps21
    go_wp2
    go_ret
    exact ⟨_, rfl, World.ownsRow_nil _ _ _ _, Below.refl _ _⟩
  · have Hcs := Lib.hid (hp.below ((Below.refl _ w).alloc (Nat.le_refl _) (.cells #[] 46))).cells; clear hp
    have Hle := Lib.hid (enc_len l)
    obtain ⟨i, hi, hz0, hz1, hz2⟩ := info_parts info_api
    have Hi := Lib.hid hi; clear hi
    have Hz0 := Lib.hid hz0; clear hz0
    have Hz1 := Lib.hid hz1; clear hz1
    have Hz2 := Lib.hid hz2; clear hz2
    have R0 := Lib.hid (World.ownsRow_lit (base := w.heap.size) (e := 46) (size := 2) w #[] 0 (Nat.le_refl _) (by decide) (by decide))
    go_enter Try.func21, Try.ntmps21
    go_wp2_with (at_builtin; refine wpList_append_own _ rfl _ _ 24 rfl w.heap.size 46 i (.agg #[.string ⟨#[]⟩, .string ⟨#[]⟩]) 2 32 Try.underlying24 Hi.out Hz0.out Hz1.out Hz2.out rfl (by decide) _ 0 [] rfl R0.out a l.length c (enc l) rfl Hle.out Hcs.out (enc_one l) (by unfold maxLen; omega) (by omega) (by simp) ?_)
    intro v' w1 hown hgrow _
    go_wp2
    go_ret
    refine ⟨_, rfl, by simpa [Row] using hown, ?_⟩
    exact ((Below.refl _ w).alloc (Nat.le_refl _) _).grown hgrow (by simp) (fun k hk => by cases hk; exact Nat.le_refl _)
set_option maxRecDepth 100000 in
set_option maxHeartbeats 4000000 in
theorem rright_any (v : Value) (l : List Pr) (w : World) (h : Lst w v l) (hl : l.length ≤ 1000000) :
    Calls Try.prog 15 #[v] w (Gives (.bool (Dc.rightB l)) w) := by
  have hmix : Try.prog.follows .mixedOrders = true := by kernel_rfl
  obtain ⟨va, vc, rfl, hp⟩ := h
  have HR := Lib.hid hp; clear hp
  go_enter Try.func15, Try.ntmps15
  go_wp2
  go_loopw [3] (fun i wr => ∃ k : Nat, (k ≤ l.length) ∧ i = .int .i64 ((k : Int) + 1) ∧ Below w.heap.size w wr ∧ Hid (Dc.rightB l = Dc.rightB (l.drop k))) (fun i _ => l.length + 1 - (intOf i).toNat)
  case atStart => exact ⟨0, by omega, rfl, Below.refl _ _, Lib.hid rfl⟩
  case round =>
    obtain ⟨k, hk, rfl, hB, HD⟩ := hrel
    by_cases hlt : k + 1 < l.length
    · obtain ⟨g, off, rfl, hc⟩ := HR.out.at hlt
      obtain ⟨d1, -⟩ := hc k (by omega) wr hB
      obtain ⟨d2, -⟩ := hc (k + 1) hlt wr hB
      have hltZ : (k : Int) + 1 < (l.length : Int) := by omega
      have hltZ2 : (k : Int) < (l.length : Int) := by omega
      have hw : IntKind.i64.wrap ((k : Int) + 1 - 1) = (k : Int) := by rw [IntKind.wrap_i64]; omega
      have hw2 : (k : Int) + 1 - 1 = (k : Int) := by omega
      have ht : ((k : Int) + 1).toNat = k + 1 := by omega
      have h0 : (0 : Int) ≤ (k : Int) + 1 := by omega
      have hD := Dc.rightB_drop hlt
      cases hc2 : Dc.lt l[k].1 l[k + 1].1
      · rw [hc2] at hD
        have HD2 := Lib.hid (HD.out.trans hD); clear hD
        have hc3 : (!(Op.bytesLess l[k].1.toList l[k + 1].1.toList)) = true := by unfold Dc.lt at hc2; rw [hc2]; rfl
        clear hc hc2
        go_wp2
        go_quiet (fail)
        all_goals go_wp2
        all_goals go_ret
        all_goals exact ⟨by rw [HD2.out]; rfl, hB.trans ((below_drewN _ _).mono hB.size)⟩
      · rw [hc2] at hD
        have HD2 := Lib.hid (HD.out.trans hD); clear hD
        have hc3 : (!(Op.bytesLess l[k].1.toList l[k + 1].1.toList)) = false := by unfold Dc.lt at hc2; rw [hc2]; rfl
        clear hc hc2
        go_wp2
        go_quiet (fail)
        all_goals go_wp2
        all_goals go_roundw
        all_goals first | exact ⟨k + 1, by omega, by go_num, hB.trans ((below_drewN _ _).mono hB.size), Lib.hid (by rw [HD2.out]; rfl)⟩ | (simp [intOf]; omega)
    · have hn : ¬ ((k : Int) + 1 < (l.length : Int)) := by omega
      have HD2 := Lib.hid (HD.out.trans (Dc.rightB_end (l := l) (k := k) (by omega)))
      go_wp2
      go_ret
      exact ⟨by rw [HD2.out]; rfl, hB⟩
set_option maxRecDepth 100000 in
set_option maxHeartbeats 4000000 in
theorem right_any (v : Value) (l : List Pr) (w : World) (h : Lst w v l) (hl : l.length ≤ 1000000) :
    Calls Try.prog 14 #[v] w (Gives (.bool (Dc.rightB l)) w) := by
  have hmix : Try.prog.follows .mixedOrders = true := by kernel_rfl
  obtain ⟨va, vc, rfl, hp⟩ := h
  have HR := Lib.hid hp; clear hp
  go_enter Try.func14, Try.ntmps14
  go_wp2
  go_loopw [3] (fun i wr => ∃ k : Nat, (k ≤ l.length) ∧ i = .int .i64 ((k : Int) + 1) ∧ Below w.heap.size w wr ∧ Hid (Dc.rightB l = Dc.rightB (l.drop k))) (fun i _ => l.length + 1 - (intOf i).toNat)
  case atStart => exact ⟨0, by omega, rfl, Below.refl _ _, Lib.hid rfl⟩
  case round =>
    obtain ⟨k, hk, rfl, hB, HD⟩ := hrel
    by_cases hlt : k + 1 < l.length
    · obtain ⟨g, off, rfl, hc⟩ := HR.out.at hlt
      obtain ⟨d1, -⟩ := hc k (by omega) wr hB
      obtain ⟨d2, -⟩ := hc (k + 1) hlt wr hB
      have hltZ : (k : Int) + 1 < (l.length : Int) := by omega
      have hltZ2 : (k : Int) < (l.length : Int) := by omega
      have hw : IntKind.i64.wrap ((k : Int) + 1 - 1) = (k : Int) := by rw [IntKind.wrap_i64]; omega
      have hw2 : (k : Int) + 1 - 1 = (k : Int) := by omega
      have ht : ((k : Int) + 1).toNat = k + 1 := by omega
      have h0 : (0 : Int) ≤ (k : Int) + 1 := by omega
      have hD := Dc.rightB_drop hlt
      cases hc2 : Dc.lt l[k].1 l[k + 1].1
      · rw [hc2] at hD
        have HD2 := Lib.hid (HD.out.trans hD); clear hD
        have hc3 : (!(Op.bytesLess l[k].1.toList l[k + 1].1.toList)) = true := by unfold Dc.lt at hc2; rw [hc2]; rfl
        clear hc hc2
        go_wp2
        go_quiet (fail)
        all_goals go_wp2
        all_goals go_ret
        all_goals exact ⟨by rw [HD2.out]; rfl, hB.trans ((below_drewN _ _).mono hB.size)⟩
      · rw [hc2] at hD
        have HD2 := Lib.hid (HD.out.trans hD); clear hD
        have hc3 : (!(Op.bytesLess l[k].1.toList l[k + 1].1.toList)) = false := by unfold Dc.lt at hc2; rw [hc2]; rfl
        clear hc hc2
        go_wp2
        go_quiet (fail)
        all_goals go_wp2
        all_goals go_roundw
        all_goals first | exact ⟨k + 1, by omega, by go_num, hB.trans ((below_drewN _ _).mono hB.size), Lib.hid (by rw [HD2.out]; rfl)⟩ | (simp [intOf]; omega)
    · have hn : ¬ ((k : Int) + 1 < (l.length : Int)) := by omega
      have HD2 := Lib.hid (HD.out.trans (Dc.rightB_end (l := l) (k := k) (by omega)))
      go_wp2
      go_ret
      exact ⟨by rw [HD2.out]; rfl, hB⟩
end Go.Proofs.Ytigopifioijjlaa
