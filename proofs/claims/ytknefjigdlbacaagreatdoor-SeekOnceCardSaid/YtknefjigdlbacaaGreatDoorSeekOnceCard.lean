/-
  What is proved: SeekOnce (promise P22.3) returns true for every seed, every list of keys, and every list of picks. Its conditions: the listed table of a site's bounds holds what its initialiser lays (tied to the program's text). By an AI agent.
-/
import Derived.Test.YtknefjigdlbacaaGreatDoorSkGBV
import Derived.Test.YtknefjigdlbacaaGreatDoorSkGBW
import Derived.ShutString
import Derived.SliceStrings
import Derived.ChangeOld
import Derived.Below
import Derived.WideKeyPair
namespace Go.Proofs.YtknefjigdlbacaaGreatDoor.seekOnce
open Go.ChangeShapes Go.WideShapes Go.WideMaps Go.WideElems Go.ChangeAt Go.RowKit
open Go.ChangeMaps (open_string shut_string)
theorem laidOut : laidOutB Tryz.prog = true := by kernel_rfl
/-- A slice of integers that came in: nil, or a row of its capacity. -/
def IsRow (k : IntKind) (w : World) (a : Option Addr) (len cap : Nat) (zs : List Int) : Prop :=
  (a = none ∧ len = 0 ∧ cap = 0 ∧ zs = []) ∨
  ∃ x, a = some x ∧ len ≤ cap ∧ cap ≤ maxLen ∧ zs.length = cap ∧ (∀ i, i < zs.length → w.cell? (x.add i) = some (.int k (zs.getD i 0))) ∧ ∀ n ∈ zs, (Lit.int k n).wf = true
theorem walk (sd : Int) (A0 : Option Addr) (len cap : Nat) (keys : List ByteArray) (A1 : Option Addr) (np cp : Nat) (zs : List Int) (w : World) (hp : Bd w) (wd : (Lit.int .u64 sd).wf = true) (hn : keys.length = len) (hm : len ≤ maxLen) (hs : Stx w w.heap.size A0 keys) (hz : ∀ x ∈ keys, x.size ≤ maxLen) (h : IsRow .i64 w A1 np cp zs) :
    Calls Tryz.prog 4 #[.int .u64 sd, .slice A0 len cap, .slice A1 np cp] w (Gives (.bool true) w) := by
  have b1 := bounds_u64 wd
  obtain ⟨sd', rfl⟩ : ∃ m : Nat, sd = (m : Int) := ⟨sd.toNat, by omega⟩
  subst hn
  obtain ⟨J, j1, j2, j3⟩ := first_long (fun r => (keys.getD r ⟨#[]⟩).size) keys.length
  have hsz : ∀ r, r < keys.length → (keys.getD r ⟨#[]⟩).size ≤ maxLen := fun r hr => hz _ (by
    rw [List.getD_eq_getElem?_getD, List.getElem?_eq_getElem hr]
    exact List.getElem_mem hr)
  have hnp : np ≤ maxLen := by
    rcases h with ⟨-, e, -⟩ | ⟨x, -, hl, hx, -⟩
    · rw [e]; exact Nat.zero_le _
    · exact Nat.le_trans hl hx
  by_cases c : ¬ (J = keys.length ∧ 1 ≤ keys.length ∧ keys.length ≤ 6) ∨ 300 < np
  · exact sonce_out sd' keys A0 cap A1 np cp w hp hs hm hnp hsz J j1 j2 j3 c
  · have c1 : (J = keys.length ∧ 1 ≤ keys.length ∧ keys.length ≤ 6) ∧ np ≤ 300 := by omega
    exact sonce_in sd' keys A0 cap A1 np cp (fun i => zs.getD i 0) w hp hs (by omega) c1.1.2.1 c1.1.2.2 (fun r hr => j2 r (by omega)) c1.2 (fun i hi => by
      rcases h with ⟨rfl, rfl, rfl, rfl⟩ | ⟨ad, rfl, hl, hx, hzl, hc, -⟩
      · omega
      · obtain ⟨b, off, rfl, hc'⟩ := ints_at hc (by omega)
        exact ⟨b, off, rfl, World.block_lt_of_cell? w _ (hc' 0 (by omega)), hc' i (by omega)⟩)
set_option maxRecDepth 100000 in
/-- What the walk gives, for every argument and every world that holds the tables. -/
theorem contract (H : Type) (enc : TypeId × Value → H) (W : World) (base : Nat) (args : Array Value) (ds gs : List (DataW H)) (before : List MemPlace)
    (hval : ∀ (j : Nat) t v, Tryz.f4.params[j]? = some t → args[j]? = some v → Value.okWide Tryz.prog W .any base t v)
    (hW : DataW.Whole enc Tryz.prog Tryz.f4.params.toList Rows.seekOnceSpec.vars false W args.toList ds gs before) (hL : laidMetH Tryz.prog Rows.seekOnceRow.laid W) :
    Calls Tryz.prog 4 args W fun e W' => ∃ v, e = .returned v ∧ Rows.seekOnceSpec.post enc Tryz.prog Tryz.f4 false true false false W args v W' := by
  have hW' := hW
  obtain ⟨p, q, hA0, hV, rfl, hfz, hnd⟩ := hW
  have hA : DataW.TrodAll enc Tryz.prog W 0 (fun _ => true) true Tryz.f4.params.toList args.toList ds p := hA0
  rw [Tryz.params4] at hA hval
  obtain ⟨v0, vs0, d0, ds0, p0, q0, hargs, rfl, rfl, h0, r0⟩ := trodAll_cons hA
  obtain ⟨v1, vs1, d1, ds1, p1, q1, rfl, rfl, rfl, h1, r1⟩ := trodAll_cons r0
  obtain ⟨v2, vs2, d2, ds2, p2, q2, rfl, rfl, rfl, h2, r2⟩ := trodAll_cons r1
  obtain ⟨rfl, rfl, rfl⟩ := trodAll_nil r2
  obtain rfl : args = #[v0, v1, v2] := by cases args; simp_all
  obtain ⟨rfl, rfl⟩ := trodVars_none hV
  obtain ⟨sd, rfl, rfl, rfl, wsd⟩ := open_int Tryz.underlying22 (hval 0 22 v0 rfl rfl) h0
  obtain ⟨l_a, l_len, l_cap, rfl⟩ := okWide_slice Tryz.underlying49 (hval 1 49 v1 rfl rfl)
  have k1 := h1
  have lt1 : ∀ x ∈ p1, x.block < W.heap.size := by obtain ⟨m, hm⟩ := k1; exact DataW.trod_lt m _ _ _ hm
  obtain ⟨l_k, l_n, l_m, l_row, l_sz⟩ : ∃ ks : List ByteArray, ks.length = l_len ∧ l_len ≤ maxLen ∧ Stx W W.heap.size l_a ks ∧ ∀ s ∈ ks, s.size ≤ maxLen := by
    obtain ⟨fuel, hf⟩ := h1
    rcases open_strings Tryz.underlying49 Tryz.underlying9 (by kernel_rfl) hf with ⟨hcs, _⟩ | ⟨x, l, c, ss, hcs, _, hl, hm, hz, _, hcell, hsz⟩
    · simp [Value.cells] at hcs
      obtain ⟨rfl, rfl, rfl⟩ := hcs
      exact ⟨[], rfl, Nat.zero_le _, .inl rfl, fun s hs => by cases hs⟩
    · simp [Value.cells] at hcs
      obtain ⟨rfl, rfl, rfl⟩ := hcs
      have hls : l_len ≤ ss.length := by
        rw [hz]
        split
        · exact hl
        · exact Nat.le_refl _
      exact ⟨ss.take l_len, by rw [List.length_take]; omega, Nat.le_trans hl hm, stx_of hls hcell, fun s hs => hsz s (List.mem_of_mem_take hs)⟩
  obtain ⟨p_a, p_len, p_cap, rfl⟩ := okWide_slice Tryz.underlying50 (hval 2 50 v2 rfl rfl)
  have k2 := h2
  have lt2 : ∀ x ∈ p2, x.block < W.heap.size := by obtain ⟨m, hm⟩ := k2; exact DataW.trod_lt m _ _ _ hm
  obtain ⟨p_z, p_row⟩ : ∃ zs, IsRow .i64 W p_a p_len p_cap zs := by
    obtain ⟨fuel, hf⟩ := h2
    rcases open_ints Tryz.underlying50 Tryz.underlying3 (by kernel_rfl) hf with ⟨hcs, _⟩ | ⟨x, l, c, zs, hcs, _, hl, hm, hz, _, hcell, hwz⟩
    · simp [Value.cells] at hcs
      obtain ⟨rfl, rfl, rfl⟩ := hcs
      exact ⟨[], .inl ⟨rfl, rfl, rfl, rfl⟩⟩
    · simp [Value.cells] at hcs
      obtain ⟨rfl, rfl, rfl⟩ := hcs
      exact ⟨zs, .inr ⟨_, rfl, hl, hm, by simpa using hz, hcell, hwz⟩⟩
  clear hA0
  have hp : Bd W := bd_of hL
  refine (walk sd l_a l_len l_cap l_k p_a p_len p_cap p_z W hp wsd l_n l_m l_row l_sz p_row).mono fun e W' ⟨he, bel⟩ => ?_
  subst he
  exact ⟨_, rfl, _, _, _, [], _, [], hW', trodAll_mk1 (shut_bool Tryz.underlying4 _), (trodAll_cons_mk (shut_int Tryz.underlying22 wsd) (trodAll_cons_mk (Below.trod laidOut (by kernel_rfl) (of_decide_eq_true (by kernel_rfl)) k1 bel lt1) (trodAll_cons_mk (Below.trod laidOut (by kernel_rfl) (of_decide_eq_true (by kernel_rfl)) k2 bel lt2) trodAll_mk0))), rfl, bel.frame _, fun h => by cases h⟩
theorem laid_met (os : Os) : laidMet Tryz.prog Rows.seekOnceRow.laid ((laidWorld os).forCall (fun _ _ => 0) ⟨#[], #[.int .u64 0, .slice none 0 0, .slice none 0 0], []⟩).memory :=
  laidMet_of_run' 8 (by kernel_rfl) (by kernel_rfl)
theorem reads (os : Os) {H : Type} (enc : TypeId × Value → H) : ∃ places, DataW.whole enc Tryz.prog ((laidWorld os).forCall (fun _ _ => 0) ⟨#[], #[.int .u64 0, .slice none 0 0, .slice none 0 0], []⟩).memory Tryz.f4.params.toList Rows.seekOnceSpec.vars false (#[.int .u64 0, .slice none 0 0, .slice none 0 0] : Array Value).toList 8 = some ([.lit (.int .u64 0), .nil, .nil], [], places) :=
  ⟨[], by kernel_rfl⟩
set_option maxRecDepth 100000 in
theorem lifted (os : Os) (started : os.Started) (H : Type) (enc : TypeId × Value → H) (F : Stop.Interp) :
    ReturnsInHanded {} Tryz.checked os 4 .any ((OpenSpec.ofChange Rows.seekOnceSpec).preRow enc Tryz.prog Tryz.f4 Rows.seekOnceRow.domain false Rows.seekOnceRow.laid) (((OpenSpec.ofChange Rows.seekOnceSpec).at F).post enc Tryz.prog Tryz.f4 false true false false) := by
  obtain ⟨places, hx⟩ := reads os enc
  refine returnsInHanded_of_row (C := Tryz.checked) (s := OpenSpec.ofChange Rows.seekOnceSpec) own started (by kernel_rfl) Tryz.func4
    (witness_row_at (enc := enc) (C := Tryz.checked) false (laidWorld os) #[.int .u64 0, .slice none 0 0, .slice none 0 0] rfl (by kernel_rfl) (by kernel_rfl) (by kernel_rfl)
      (OpenSpec.preRow_of_cond 8 hx (by kernel_rfl) (fun k hk => by cases hk) (by kernel_rfl) (laid_met os))) ?_
  intro W base args ds gs before hval hW _ _ _ hL _ _
  exact contract H enc W base args ds gs before hval hW hL
theorem said : Rows.SeekOnceSaid :=
  OpenClaim.holds_of_cond 4 Tryz.f4 rfl rfl rfl rfl rfl rfl rfl ⟨rfl, rfl, rfl, rfl, rfl⟩ rfl rfl rfl rfl rfl (by kernel_rfl) Tryz.func4 (by kernel_rfl)
    (of_decide_eq_true (by kernel_rfl)) (by unfold Func.isWrapper; first | (rw [if_pos (by decide +kernel)]; kernel_rfl) | (rw [if_neg (by decide +kernel)]; exact ⟨rfl, rfl⟩))
    (fun os started H enc _ F => by rw [OpenClaim.pre_eq_preRow]; exact lifted os started H enc F)
theorem plain (f : FuncId) (fn : Func) (hf : Tryz.pinned.checked.prog.funcNamed "sprocket/sprocketlaw22.SeekOnce" = some f) (hfn : Tryz.pinned.checked.prog.funcs[f]? = some fn) :
    false = Tryz.pinned.checked.prog.looks [] ∧ ∀ (j : Nat) t, fn.params[j]? = some t → Tryz.pinned.checked.prog.wantsStandIn t = false := by
  obtain rfl : f = 4 := Option.some.inj ((show Tryz.prog.funcNamed "sprocket/sprocketlaw22.SeekOnce" = some 4 by kernel_rfl).symm.trans hf) |>.symm
  obtain rfl : fn = Tryz.f4 := (Option.some.inj (Tryz.func4.symm.trans hfn)).symm
  refine ⟨by kernel_rfl, fun j t ht => ?_⟩
  rw [Tryz.params4] at ht
  have hm := Array.mem_of_getElem? ht
  have ht' : t = 22 ∨ t = 49 ∨ t = 50 := by simpa using hm
  rcases ht' with rfl | rfl | rfl
  · exact (show Tryz.prog.wantsStandIn 22 = false by kernel_rfl)
  · exact (show Tryz.prog.wantsStandIn 49 = false by kernel_rfl)
  · exact (show Tryz.prog.wantsStandIn 50 = false by kernel_rfl)
/-- ████ THE CARD ████ -/
theorem card : Rows.SeekOnceCardSaid :=
  Claim7.holds_tied_plain_at .later [] _ _ _ _ said (fun _ h => by cases h) (by kernel_rfl) (fun _ h => by cases h) seekOnce_row_tie rfl ⟨rfl, rfl⟩ (by kernel_rfl) rfl plain (by kernel_rfl)
end Go.Proofs.YtknefjigdlbacaaGreatDoor.seekOnce
namespace Go.Proofs.YtknefjigdlbacaaGreatDoor
theorem seekOnce_holds : Rows.SeekOnceCardSaid := seekOnce.card
end Go.Proofs.YtknefjigdlbacaaGreatDoor
