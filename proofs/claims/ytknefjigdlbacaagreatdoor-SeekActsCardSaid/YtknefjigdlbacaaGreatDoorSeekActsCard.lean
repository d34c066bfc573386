/-
  What is proved: SeekActs (promises P22.1 and P22.2) returns true for every table, every site, every key, every box, checked or not, and every list of answers. Its conditions: the listed table of a site's bounds holds what its initialiser lays (tied to the program's text). By an AI agent.
-/
import Derived.Test.YtknefjigdlbacaaGreatDoorSkActs3
import Derived.Test.YtknefjigdlbacaaGreatDoorSkKBV
import Derived.ShutString
import Derived.ChangeOld
import Derived.Below
import Derived.WideKeyPair
namespace Go.Proofs.YtknefjigdlbacaaGreatDoor.seekActs
open Go.ChangeShapes Go.WideShapes Go.WideMaps Go.WideElems Go.ChangeAt Go.RowKit
open Go.ChangeMaps (open_string shut_string)
theorem laidOut : laidOutB Tryz.prog = true := by kernel_rfl
/-- A slice of integers that came in: nil, or a row of its capacity. -/
def IsRow (k : IntKind) (w : World) (a : Option Addr) (len cap : Nat) (zs : List Int) : Prop :=
  (a = none ∧ len = 0 ∧ cap = 0 ∧ zs = []) ∨
  ∃ x, a = some x ∧ len ≤ cap ∧ cap ≤ maxLen ∧ zs.length = cap ∧ (∀ i, i < zs.length → w.cell? (x.add i) = some (.int k (zs.getD i 0))) ∧ ∀ n ∈ zs, (Lit.int k n).wf = true
theorem row_words {A : Option Addr} {len cap : Nat} {zs : List Int} {w : World} (h : IsRow .u64 w A len cap zs) : (len ≤ cap ∧ cap ≤ maxLen ∧ (A = none → cap = 0)) ∧ ∃ gs : List Nat, gs.length = len ∧ Sl .u64 w w.heap.size A (Kr.up gs) ∧ ∀ x ∈ gs, x < 18446744073709551616 := by
  rcases h with ⟨rfl, rfl, rfl, rfl⟩ | ⟨ad, rfl, hl, hm, hz, hc, hwf⟩
  · exact ⟨⟨Nat.le_refl _, by unfold maxLen; omega, fun _ => rfl⟩, [], rfl, .inl rfl, fun x hx => by cases hx⟩
  · refine ⟨⟨hl, hm, fun e => nomatch e⟩, (zs.take len).map Int.toNat, by rw [List.length_map, List.length_take]; omega, ?_, ?_⟩
    · by_cases h0 : len = 0
      · subst h0; exact .inl rfl
      · obtain ⟨b, off, rfl, hc'⟩ := ints_at hc (by omega)
        refine .inr ⟨b, off, rfl, World.block_lt_of_cell? w _ (hc' 0 (by omega)), fun j hj => ?_⟩
        rw [Kr.up_len, List.length_map, List.length_take] at hj
        have hb := bounds_u64 (hwf (zs[j]'(by omega)) (List.getElem_mem _))
        have e : (Kr.up ((zs.take len).map Int.toNat))[j]'(by rw [Kr.up_len, List.length_map, List.length_take]; exact hj) = zs[j]'(by omega) := by
          simp only [Kr.up, List.getElem_map, List.getElem_take]
          omega
        rw [e, hc' j (by omega), List.getD_eq_getElem?_getD, List.getElem?_eq_getElem (by omega)]
        rfl
    · intro x hx
      rw [List.mem_map] at hx
      obtain ⟨y, hy, rfl⟩ := hx
      have hb := bounds_u64 (hwf y (List.mem_of_mem_take hy))
      omega
theorem walk (b l d t n k s : Int) (key : ByteArray) (lay : Int) (chk : Bool) (A : Option Addr) (len cap : Nat) (zs : List Int) (w : World) (hp : Bd w) (wb : (Lit.int .u64 b).wf = true) (wd : (Lit.int .u64 d).wf = true) (ws : (Lit.int .u64 s).wf = true) (wl : (Lit.int .u64 lay).wf = true) (hk : key.size ≤ maxLen) (h : IsRow .u64 w A len cap zs) :
    Calls Tryz.prog 3 #[.agg #[.int .u64 b, .int .i64 l], .agg #[.int .u64 d, .int .i64 t, .int .i64 n, .int .i64 k, .int .u64 s, .string key, .int .u64 lay, .bool chk], .slice A len cap] w (Gives (.bool true) w) := by
  obtain ⟨⟨h1, h2, h3⟩, gs, hl, hsl, hw⟩ := row_words h
  have b0 := bounds_u64 wb
  have b1 := bounds_u64 wd
  have b2 := bounds_u64 ws
  have b3 := bounds_u64 wl
  obtain ⟨b', rfl⟩ : ∃ m : Nat, b = (m : Int) := ⟨b.toNat, by omega⟩
  obtain ⟨d', rfl⟩ : ∃ m : Nat, d = (m : Int) := ⟨d.toNat, by omega⟩
  obtain ⟨s', rfl⟩ : ∃ m : Nat, s = (m : Int) := ⟨s.toNat, by omega⟩
  obtain ⟨l', rfl⟩ : ∃ m : Nat, lay = (m : Int) := ⟨lay.toNat, by omega⟩
  by_cases c1 : 80 < len ∨ 100 < key.size
  · exact sacts_out d' t n k s' b' l key l' chk A len cap w hp (by omega) hk c1
  · have c2 : len ≤ 80 ∧ key.size ≤ 100 := by omega
    cases hm : (Dk.right (d' : Int) t n k && Tb.right (b' : Int) (Tb.grp l) && decide (key.size ≤ 16)) with
    | false => exact sacts_not d' t n k s' b' l key l' chk A len cap w hp c2.1 c2.2 hm
    | true =>
      simp only [Bool.and_eq_true, decide_eq_true_eq] at hm
      obtain ⟨⟨m1, m2⟩, m3⟩ := hm
      have r : 0 ≤ t ∧ t ≤ 63 := by
        have := m1
        unfold Dk.right Dk.inn at this
        simp at this
        omega
      have g : 1 ≤ Tb.grp l := by
        have := m2
        unfold Tb.right at this
        simp at this
        omega
      obtain ⟨t', rfl⟩ : ∃ m : Nat, t = (m : Int) := ⟨t.toNat, by omega⟩
      subst hl
      exact sacts_in d' t' n k s' b' l key l' chk gs A cap w hp t' rfl m1 m2 m3 (by omega) ⟨by show t' ≤ 63; omega, by show b' < _; omega, g, Mx.hsh_lt _ _, by show l' < _; omega⟩ (by omega) hw h1 h2 hsl
set_option maxRecDepth 100000 in
/-- What the walk gives, for every argument and every world that holds the tables. -/
theorem contract (H : Type) (enc : TypeId × Value → H) (W : World) (base : Nat) (args : Array Value) (ds gs : List (DataW H)) (before : List MemPlace)
    (hval : ∀ (j : Nat) t v, Tryz.f3.params[j]? = some t → args[j]? = some v → Value.okWide Tryz.prog W .any base t v)
    (hW : DataW.Whole enc Tryz.prog Tryz.f3.params.toList Rows.seekActsSpec.vars false W args.toList ds gs before) (hL : laidMetH Tryz.prog Rows.seekActsRow.laid W) :
    Calls Tryz.prog 3 args W fun e W' => ∃ v, e = .returned v ∧ Rows.seekActsSpec.post enc Tryz.prog Tryz.f3 false true false false W args v W' := by
  have hW' := hW
  obtain ⟨p, q, hA0, hV, rfl, hfz, hnd⟩ := hW
  have hA : DataW.TrodAll enc Tryz.prog W 0 (fun _ => true) true Tryz.f3.params.toList args.toList ds p := hA0
  rw [Tryz.params3] at hA hval
  obtain ⟨v0, vs0, d0, ds0, p0, q0, hargs, rfl, rfl, h0, r0⟩ := trodAll_cons hA
  obtain ⟨v1, vs1, d1, ds1, p1, q1, rfl, rfl, rfl, h1, r1⟩ := trodAll_cons r0
  obtain ⟨v2, vs2, d2, ds2, p2, q2, rfl, rfl, rfl, h2, r2⟩ := trodAll_cons r1
  obtain ⟨rfl, rfl, rfl⟩ := trodAll_nil r2
  obtain rfl : args = #[v0, v1, v2] := by cases args; simp_all
  obtain ⟨rfl, rfl⟩ := trodVars_none hV
  have k0 := h0
  have lt0 : ∀ x ∈ p0, x.block < W.heap.size := by obtain ⟨m, hm⟩ := k0; exact DataW.trod_lt m _ _ _ hm
  obtain ⟨tb, tl, rfl, wtb⟩ := open_table (hval 0 24 v0 rfl rfl) h0
  have k1 := h1
  have lt1 : ∀ x ∈ p1, x.block < W.heap.size := by obtain ⟨m, hm⟩ := k1; exact DataW.trod_lt m _ _ _ hm
  obtain ⟨sd, st, sn, sk, ss, key, lay, chk, rfl, wsd, wss, wlay, hkey⟩ := open_case (hval 1 28 v1 rfl rfl) h1
  obtain ⟨l_a, l_len, l_cap, rfl⟩ := okWide_slice Tryz.underlying29 (hval 2 29 v2 rfl rfl)
  have k2 := h2
  have lt2 : ∀ x ∈ p2, x.block < W.heap.size := by obtain ⟨m, hm⟩ := k2; exact DataW.trod_lt m _ _ _ hm
  obtain ⟨l_z, l_row⟩ : ∃ zs, IsRow .u64 W l_a l_len l_cap zs := by
    obtain ⟨fuel, hf⟩ := h2
    rcases open_ints Tryz.underlying29 Tryz.underlying22 (by kernel_rfl) hf with ⟨hcs, _⟩ | ⟨x, l, c, zs, hcs, _, hl, hm, hz, _, hcell, hwz⟩
    · simp [Value.cells] at hcs
      obtain ⟨rfl, rfl, rfl⟩ := hcs
      exact ⟨[], .inl ⟨rfl, rfl, rfl, rfl⟩⟩
    · simp [Value.cells] at hcs
      obtain ⟨rfl, rfl, rfl⟩ := hcs
      exact ⟨zs, .inr ⟨_, rfl, hl, hm, by simpa using hz, hcell, hwz⟩⟩
  clear hA0
  have hp : Bd W := bd_of hL
  refine (walk tb tl sd st sn sk ss key lay chk l_a l_len l_cap l_z W hp wtb wsd wss wlay hkey l_row).mono fun e W' ⟨he, bel⟩ => ?_
  subst he
  exact ⟨_, rfl, _, _, _, [], _, [], hW', trodAll_mk1 (shut_bool Tryz.underlying4 _), (trodAll_cons_mk (Below.trod laidOut (by kernel_rfl) (of_decide_eq_true (by kernel_rfl)) k0 bel lt0) (trodAll_cons_mk (Below.trod laidOut (by kernel_rfl) (of_decide_eq_true (by kernel_rfl)) k1 bel lt1) (trodAll_cons_mk (Below.trod laidOut (by kernel_rfl) (of_decide_eq_true (by kernel_rfl)) k2 bel lt2) trodAll_mk0))), rfl, bel.frame _, fun h => by cases h⟩
theorem laid_met (os : Os) : laidMet Tryz.prog Rows.seekActsRow.laid ((laidWorld os).forCall (fun _ _ => 0) ⟨#[], #[.agg #[.int .u64 0, .int .i64 0], .agg #[.int .u64 0, .int .i64 0, .int .i64 0, .int .i64 0, .int .u64 0, .string ⟨#[]⟩, .int .u64 0, .bool false], .slice none 0 0], []⟩).memory :=
  laidMet_of_run' 8 (by kernel_rfl) (by kernel_rfl)
theorem reads (os : Os) {H : Type} (enc : TypeId × Value → H) : ∃ places, DataW.whole enc Tryz.prog ((laidWorld os).forCall (fun _ _ => 0) ⟨#[], #[.agg #[.int .u64 0, .int .i64 0], .agg #[.int .u64 0, .int .i64 0, .int .i64 0, .int .i64 0, .int .u64 0, .string ⟨#[]⟩, .int .u64 0, .bool false], .slice none 0 0], []⟩).memory Tryz.f3.params.toList Rows.seekActsSpec.vars false (#[.agg #[.int .u64 0, .int .i64 0], .agg #[.int .u64 0, .int .i64 0, .int .i64 0, .int .i64 0, .int .u64 0, .string ⟨#[]⟩, .int .u64 0, .bool false], .slice none 0 0] : Array Value).toList 8 = some ([.agg [.lit (.int .u64 0), .lit (.int .i64 0)], .agg [.agg [.lit (.int .u64 0), .lit (.int .i64 0), .lit (.int .i64 0), .lit (.int .i64 0), .lit (.int .u64 0)], .lit (.string []), .lit (.int .u64 0), .lit (.bool false)], .nil], [], places) :=
  ⟨[], by kernel_rfl⟩
set_option maxRecDepth 100000 in
theorem lifted (os : Os) (started : os.Started) (H : Type) (enc : TypeId × Value → H) (F : Stop.Interp) :
    ReturnsInHanded {} Tryz.checked os 3 .any ((OpenSpec.ofChange Rows.seekActsSpec).preRow enc Tryz.prog Tryz.f3 Rows.seekActsRow.domain false Rows.seekActsRow.laid) (((OpenSpec.ofChange Rows.seekActsSpec).at F).post enc Tryz.prog Tryz.f3 false true false false) := by
  obtain ⟨places, hx⟩ := reads os enc
  refine returnsInHanded_of_row (C := Tryz.checked) (s := OpenSpec.ofChange Rows.seekActsSpec) own started (by kernel_rfl) Tryz.func3
    (witness_row_at (enc := enc) (C := Tryz.checked) false (laidWorld os) #[.agg #[.int .u64 0, .int .i64 0], .agg #[.int .u64 0, .int .i64 0, .int .i64 0, .int .i64 0, .int .u64 0, .string ⟨#[]⟩, .int .u64 0, .bool false], .slice none 0 0] rfl (by kernel_rfl) (by kernel_rfl) (by kernel_rfl)
      (OpenSpec.preRow_of_cond 8 hx (by kernel_rfl) (fun k hk => by cases hk) (by kernel_rfl) (laid_met os))) ?_
  intro W base args ds gs before hval hW _ _ _ hL _ _
  exact contract H enc W base args ds gs before hval hW hL
theorem said : Rows.SeekActsSaid :=
  OpenClaim.holds_of_cond 3 Tryz.f3 rfl rfl rfl rfl rfl rfl rfl ⟨rfl, rfl, rfl, rfl, rfl⟩ rfl rfl rfl rfl rfl (by kernel_rfl) Tryz.func3 (by kernel_rfl)
    (of_decide_eq_true (by kernel_rfl)) (by unfold Func.isWrapper; first | (rw [if_pos (by decide +kernel)]; kernel_rfl) | (rw [if_neg (by decide +kernel)]; exact ⟨rfl, rfl⟩))
    (fun os started H enc _ F => by rw [OpenClaim.pre_eq_preRow]; exact lifted os started H enc F)
theorem plain (f : FuncId) (fn : Func) (hf : Tryz.pinned.checked.prog.funcNamed "sprocket/sprocketlaw22.SeekActs" = some f) (hfn : Tryz.pinned.checked.prog.funcs[f]? = some fn) :
    false = Tryz.pinned.checked.prog.looks [] ∧ ∀ (j : Nat) t, fn.params[j]? = some t → Tryz.pinned.checked.prog.wantsStandIn t = false := by
  obtain rfl : f = 3 := Option.some.inj ((show Tryz.prog.funcNamed "sprocket/sprocketlaw22.SeekActs" = some 3 by kernel_rfl).symm.trans hf) |>.symm
  obtain rfl : fn = Tryz.f3 := (Option.some.inj (Tryz.func3.symm.trans hfn)).symm
  refine ⟨by kernel_rfl, fun j t ht => ?_⟩
  rw [Tryz.params3] at ht
  have hm := Array.mem_of_getElem? ht
  have ht' : t = 24 ∨ t = 28 ∨ t = 29 := by simpa using hm
  rcases ht' with rfl | rfl | rfl
  · exact (show Tryz.prog.wantsStandIn 24 = false by kernel_rfl)
  · exact (show Tryz.prog.wantsStandIn 28 = false by kernel_rfl)
  · exact (show Tryz.prog.wantsStandIn 29 = false by kernel_rfl)
/-- ████ THE CARD ████ -/
theorem card : Rows.SeekActsCardSaid :=
  Claim7.holds_tied_plain_at .later [] _ _ _ _ said (fun _ h => by cases h) (by kernel_rfl) (fun _ h => by cases h) seekActs_row_tie rfl ⟨rfl, rfl⟩ (by kernel_rfl) rfl plain (by kernel_rfl)
end Go.Proofs.YtknefjigdlbacaaGreatDoor.seekActs
namespace Go.Proofs.YtknefjigdlbacaaGreatDoor
theorem seekActs_holds : Rows.SeekActsCardSaid := seekActs.card
end Go.Proofs.YtknefjigdlbacaaGreatDoor
