/-
  The walks of the document's own Right and Same. By an AI agent.
-/
import Derived.Test.YtclkpfjihdcnfaaDictRef2
set_option linter.unusedSimpArgs false
namespace Go.Proofs.Ytclkpfjihdcnfaa
open Go.RowKit
open Dc (Pr)
set_option maxRecDepth 100000 in
set_option maxHeartbeats 4000000 in
theorem rright_any (B : Nat) (v : Value) (l : List Pr) (w : World) (h : Row B 40 w v l) (hl : l.length ≤ 1000000) (hs : Dc.Srt l) :
    Calls Try.prog 17 #[v] w (Gives (.bool true) w) := by
  have hmix : Try.prog.follows .mixedOrders = true := by kernel_rfl
  obtain ⟨va, vc, rfl⟩ := h.lens
  have HR := Lib.hid h; clear h
  have HS := Lib.hid hs; clear hs
  go_enter Try.func17, Try.ntmps17
  go_wp2
  go_loopw [3] (fun i wr => ∃ k : Nat, (k ≤ l.length) ∧ i = .int .i64 ((k : Int) + 1) ∧ Below w.heap.size w wr) (fun i _ => l.length + 1 - (intOf i).toNat)
  case atStart => exact ⟨0, by omega, rfl, Below.refl _ _⟩
  case round =>
    obtain ⟨k, hk, rfl, hB⟩ := hrel
    by_cases hlt : k + 1 < l.length
    · have hr := own_below HR.out hB (Nat.le_refl _)
      obtain ⟨g, c, hv⟩ := Row.addr hr hlt
      cases hv
      have d1 := Row.key hr (k := k) (by omega)
      have d2 := Row.key hr hlt
      have hltZ : (k : Int) + 1 < (l.length : Int) := by omega
      have hltZ2 : (k : Int) < (l.length : Int) := by omega
      have hw : IntKind.i64.wrap ((k : Int) + 1 - 1) = (k : Int) := by rw [IntKind.wrap_i64]; omega
      have hw2 : (k : Int) + 1 - 1 = (k : Int) := by omega
      have ht : ((k : Int) + 1).toNat = k + 1 := by omega
      have h0 : (0 : Int) ≤ (k : Int) + 1 := by omega
      have hc : (!(Op.bytesLess l[k].1.toList l[k + 1].1.toList)) = false := by
        have := Dc.srt_at HS.out k (k + 1) hlt (by omega)
        unfold Dc.lt at this
        rw [this]; rfl
      clear hr
      go_wp2
      go_quiet (fail)
      all_goals go_wp2
      all_goals go_roundw
      all_goals first | exact ⟨k + 1, by omega, by go_num, hB.trans ((below_drewN _ _).mono hB.size)⟩ | (simp [intOf]; omega)
    · have hn : ¬ ((k : Int) + 1 < (l.length : Int)) := by omega
      go_wp2
      go_ret
      exact ⟨rfl, hB⟩
theorem neq_same (w : World) (a b : ByteArray) : (binOp .neq 40 (.agg #[.string a, .string b]) (.agg #[.string a, .string b])).run Try.prog w = .ok (.bool false) w := by
  have h1 : Try.prog.underlying 40 = some (.struct (Try.prog.fieldsOf 40)) := by kernel_rfl
  have h2 : Try.prog.stoodInHeld 40 = false := by kernel_rfl
  have hs : Try.prog.underlying 9 = some .string := Try.underlying9
  rw [run_neq_struct, run_equalIn_struct w 9999 _ _ _ h1 h2]
  have hf : (Try.prog.fieldsOf 40).toList.map (fun f => (f.name, f.type, f.offset)) = [("Key", 9, 0), ("Value", 9, 1)] := by kernel_rfl
  generalize (Try.prog.fieldsOf 40).toList = fs at hf
  match fs, hf with
  | [f1, f2], hf =>
    simp only [List.map_cons, List.map_nil, List.cons.injEq, Prod.mk.injEq, and_true] at hf
    obtain ⟨⟨n1, t1, o1⟩, ⟨n2, t2, o2⟩⟩ := hf
    have p1 : ∀ w, (part 9 #[.string a, .string b] 0).run Try.prog w = .ok (.string a) w := fun w => by
      first | rfl | simp [part, go_sem]
    have p2 : ∀ w, (part 9 #[.string a, .string b] 1).run Try.prog w = .ok (.string b) w := fun w => by
      first | rfl | simp [part, go_sem]
    simp [Op.eqFields, n1, t1, o1, n2, t2, o2, p1, p2, run_equalIn_string _ _ _ _ _ hs]
  | [], hf => cases hf
  | [_], hf => simp at hf
  | _ :: _ :: _ :: _, hf => simp at hf
set_option maxRecDepth 100000 in
set_option maxHeartbeats 2000000 in
/-- Two lists of the same pairs are found the same. -/
theorem rsame_any (B C : Nat) (v u : Value) (l : List Pr) (w : World) (h : Row B 40 w v l) (h' : Row C 40 w u l) (hl : l.length ≤ 1000000) :
    Calls Try.prog 15 #[v, u] w (Gives (.bool true) w) := by
  have hmix : Try.prog.follows .mixedOrders = true := by kernel_rfl
  have hneq := neq_same
  obtain ⟨va, vc, rfl⟩ := h.lens
  obtain ⟨ua, uc, rfl⟩ := h'.lens
  have hne : ((l.length : Int) != (l.length : Int)) = false := by simp
  have HR := Lib.hid h; clear h
  have HR' := Lib.hid h'; clear h'
  go_enter Try.func15, Try.ntmps15
  go_wp2
  go_loopw [5] (fun i wr => ∃ k : Nat, k ≤ l.length ∧ i = .int .i64 k ∧ Below w.heap.size w wr) (fun i _ => l.length - (intOf i).toNat)
  case atStart => exact ⟨0, by omega, rfl, Below.refl _ _⟩
  case round =>
    obtain ⟨k, hk, rfl, hB⟩ := hrel
    by_cases hlt : k < l.length
    · have hr := own_below HR.out hB (Nat.le_refl _)
      have hr' := own_below HR'.out hB (Nat.le_refl _)
      obtain ⟨g, c, hv⟩ := Row.addr hr hlt
      cases hv
      obtain ⟨g', c', hv⟩ := Row.addr hr' hlt
      cases hv
      have d1 := Row.key hr hlt
      have d2 := Row.val hr hlt
      have e1 := Row.key hr' hlt
      have e2 := Row.val hr' hlt
      have hltZ : (k : Int) < (l.length : Int) := by omega
      clear hr hr'
      go_wp2
      go_quiet (fail)
      all_goals go_wp2
      all_goals go_roundw
      all_goals first | exact ⟨k + 1, by omega, by go_num, hB.trans ((below_drewN _ _).mono hB.size)⟩ | (simp [intOf]; omega)
    · obtain rfl : k = l.length := by omega
      go_wp2
      go_ret
      exact ⟨rfl, hB⟩
end Go.Proofs.Ytclkpfjihdcnfaa
