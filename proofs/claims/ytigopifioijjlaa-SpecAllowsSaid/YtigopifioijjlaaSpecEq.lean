/-
  The walks of slices.Equal of lists of pairs, and of the document's own Same of lists. By an AI agent.
-/
import Derived.Test.YtigopifioijjlaaSpecLists
set_option linter.unusedSimpArgs false
namespace Go.Proofs.Ytigopifioijjlaa
open Go.RowKit
open Dc (Pr Rpl)
theorem neq_pair (w : World) (a b c d : ByteArray) : (binOp .neq 46 (.agg #[.string a, .string b]) (.agg #[.string c, .string d])).run Try.prog w = .ok (.bool (!(Dc.ke a c && Dc.ke b d))) w := by
  have h1 : Try.prog.underlying 46 = some (.struct (Try.prog.fieldsOf 46)) := by kernel_rfl
  have h2 : Try.prog.stoodInHeld 46 = false := by kernel_rfl
  have hs : Try.prog.underlying 9 = some .string := Try.underlying9
  rw [run_neq_struct, run_equalIn_struct w 9999 _ _ _ h1 h2]
  have hf : (Try.prog.fieldsOf 46).toList.map (fun f => (f.name, f.type, f.offset)) = [("Key", 9, 0), ("Value", 9, 1)] := by kernel_rfl
  generalize (Try.prog.fieldsOf 46).toList = fs at hf
  match fs, hf with
  | [f1, f2], hf =>
    simp only [List.map_cons, List.map_nil, List.cons.injEq, Prod.mk.injEq, and_true] at hf
    obtain ⟨⟨n1, t1, o1⟩, ⟨n2, t2, o2⟩⟩ := hf
    have p1 : ∀ w x y, (part 9 #[.string x, .string y] 0).run Try.prog w = .ok (.string x) w := fun w x y => by
      first | rfl | simp [part, go_sem]
    have p2 : ∀ w x y, (part 9 #[.string x, .string y] 1).run Try.prog w = .ok (.string y) w := fun w x y => by
      first | rfl | simp [part, go_sem]
    simp [Op.eqFields, n1, t1, o1, n2, t2, o2, p1, p2, run_equalIn_string _ _ _ _ _ hs, Dc.ke]
    cases e1 : (a.toList == c.toList) <;> cases e2 : (b.toList == d.toList) <;> simp_all
  | [], hf => cases hf
  | [_], hf => simp at hf
  | _ :: _ :: _ :: _, hf => simp at hf
set_option maxRecDepth 100000 in
set_option maxHeartbeats 4000000 in
/-- Two lists are found the same, just if they are. -/
theorem rsame_any (v u : Value) (l m : List Pr) (w : World) (h : Lst w v l) (h' : Lst w u m) (hl : l.length ≤ 1000000) :
    Calls Try.prog 10 #[v, u] w (Gives (.bool (Dc.eqB l m)) w) := by
  have hmix : Try.prog.follows .mixedOrders = true := by kernel_rfl
  obtain ⟨va, vc, rfl, hp⟩ := h
  obtain ⟨ua, uc, rfl, hq⟩ := h'
  have HR := Lib.hid hp; clear hp
  have HR' := Lib.hid hq; clear hq
  by_cases hlen : l.length = m.length
  · have hne : ((l.length : Int) != (l.length : Int)) = false := by simp
    rw [← hlen]
    have Hlen := Lib.hid hlen; clear hlen
    go_enter Try.func10, Try.ntmps10
    go_wp2
    go_loopw [5] (fun i wr => ∃ k : Nat, k ≤ l.length ∧ i = .int .i64 k ∧ Below w.heap.size w wr ∧ Hid (Dc.eqB l m = Dc.eqB (l.drop k) (m.drop k))) (fun i _ => l.length - (intOf i).toNat)
    case atStart => exact ⟨0, by omega, rfl, Below.refl _ _, Lib.hid rfl⟩
    case round =>
      obtain ⟨k, hk, rfl, hB, HD⟩ := hrel
      by_cases hlt : k < l.length
      · have hlt' : k < m.length := by have := Hlen.out; omega
        obtain ⟨g, off, rfl, hc⟩ := HR.out.at hlt
        obtain ⟨g', off', rfl, hc'⟩ := HR'.out.at hlt'
        obtain ⟨d1, d2⟩ := hc k hlt wr hB
        obtain ⟨e1, e2⟩ := hc' k hlt' wr hB
        have hltZ : (k : Int) < (l.length : Int) := by omega
        have hD := Dc.eqB_drop hlt hlt'
        have hn := fun w => neq_pair w l[k].1 l[k].2 m[k].1 m[k].2
        cases hc2 : (Dc.ke l[k].1 m[k].1 && Dc.ke l[k].2 m[k].2)
        all_goals
          rw [hc2] at hD
          have HD2 := Lib.hid (HD.out.trans hD); clear hD
          simp only [hc2, Bool.not_false, Bool.not_true] at hn
          clear hc hc' hc2
          go_wp2
          go_quiet (fail)
          all_goals go_wp2
        · go_ret
          exact ⟨by rw [HD2.out]; rfl, hB.trans ((below_drewN _ _).mono hB.size)⟩
        · go_roundw
          all_goals first | exact ⟨k + 1, by omega, by go_num, hB.trans ((below_drewN _ _).mono hB.size), Lib.hid (by rw [HD2.out]; rfl)⟩ | (simp [intOf]; omega)
      · obtain rfl : k = l.length := by omega
        have e := HD.out
        rw [List.drop_length, show m.drop l.length = [] by rw [Hlen.out, List.drop_length]] at e
        have HD2 := Lib.hid e; clear e
        go_wp2
        go_ret
        exact ⟨by rw [HD2.out]; rfl, hB⟩
  · have hne : ((l.length : Int) != (m.length : Int)) = true := by simp; omega
    rw [Dc.eqB_len hlen]
    clear hlen
    go_enter Try.func10, Try.ntmps10
    go_wp2
    go_ret
    exact ⟨rfl, Below.refl _ _⟩
set_option maxRecDepth 100000 in
set_option maxHeartbeats 4000000 in
theorem equal_any (v u : Value) (l m : List Pr) (w : World) (h : Lst w v l) (h' : Lst w u m) (hl : l.length ≤ 1000000) :
    Calls Try.prog 25 #[v, u] w (Gives (.bool (Dc.eqB l m)) w) := by
  have hmix : Try.prog.follows .mixedOrders = true := by kernel_rfl
  obtain ⟨va, vc, rfl, hp⟩ := h
  obtain ⟨ua, uc, rfl, hq⟩ := h'
  have HR := Lib.hid hp; clear hp
  have HR' := Lib.hid hq; clear hq
  by_cases hlen : l.length = m.length
  · have hne : ((l.length : Int) != (l.length : Int)) = false := by simp
    rw [← hlen]
    have Hlen := Lib.hid hlen; clear hlen
    go_enter Try.func25, Try.ntmps25
    go_wp2
    go_loopw [5, 13] (fun _ i wr => ∃ k : Nat, k ≤ l.length ∧ i = .int .i64 k ∧ Below w.heap.size w wr ∧ Hid (Dc.eqB l m = Dc.eqB (l.drop k) (m.drop k))) (fun _ i _ => l.length - (intOf i).toNat)
    case atStart => exact ⟨0, by omega, rfl, Below.refl _ _, Lib.hid rfl⟩
    case round =>
      obtain ⟨k, hk, rfl, hB, HD⟩ := hrel
      by_cases hlt : k < l.length
      · have hlt' : k < m.length := by have := Hlen.out; omega
        obtain ⟨g, off, rfl, hc⟩ := HR.out.at hlt
        obtain ⟨g', off', rfl, hc'⟩ := HR'.out.at hlt'
        obtain ⟨d1, d2⟩ := hc k hlt wr hB
        obtain ⟨e1, e2⟩ := hc' k hlt' wr hB
        have hltZ : (k : Int) < (l.length : Int) := by omega
        have hD := Dc.eqB_drop hlt hlt'
        have hn := fun w => neq_pair w l[k].1 l[k].2 m[k].1 m[k].2
        cases hc2 : (Dc.ke l[k].1 m[k].1 && Dc.ke l[k].2 m[k].2)
        all_goals
          rw [hc2] at hD
          have HD2 := Lib.hid (HD.out.trans hD); clear hD
          simp only [hc2, Bool.not_false, Bool.not_true] at hn
          clear hc hc' hc2
          go_wp2
          go_quiet (fail)
          all_goals go_wp2
        · go_ret
          exact ⟨by rw [HD2.out]; rfl, hB.trans ((below_drewN _ _).mono hB.size)⟩
        · go_roundw
          all_goals first | exact ⟨k + 1, by omega, by go_num, hB.trans ((below_drewN _ _).mono hB.size), Lib.hid (by rw [HD2.out]; rfl)⟩ | (simp [intOf]; omega)
      · obtain rfl : k = l.length := by omega
        have e := HD.out
        rw [List.drop_length, show m.drop l.length = [] by rw [Hlen.out, List.drop_length]] at e
        have HD2 := Lib.hid e; clear e
        go_wp2
        go_ret
        exact ⟨by rw [HD2.out]; rfl, hB⟩
  · have hne : ((l.length : Int) != (m.length : Int)) = true := by simp; omega
    rw [Dc.eqB_len hlen]
    clear hlen
    go_enter Try.func25, Try.ntmps25
    go_wp2
    go_ret
    exact ⟨rfl, Below.refl _ _⟩
end Go.Proofs.Ytigopifioijjlaa
