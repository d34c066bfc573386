/-
  Several texts in one: A tape's Load and Cas, and rests of lists; The walks of a tape's Load, and of the document's Read on a tape; The walks of Groups, Size, Limit and Stripe, the program's and the document's, and of the program's Where (jumps from part to part), GroupCell and SlotCell. By an AI agent.
-/
import Derived.Test.YtknefjigdlbacaaGreatDoorSkKAO
import Derived.Test.YtknefjigdlbacaaGreatDoorSkKAS
import Derived.Test.YtknefjigdlbacaaGreatDoorSkKAM
import Derived.Test.YtknefjigdlbacaaGreatDoorSkKAI
import Derived.Test.YtknefjigdlbacaaGreatDoorSkKAN
import Derived.Test.YtknefjigdlbacaaGreatDoorSkKAD
import Derived.WalkKit
import Derived.WalkSpells
import Derived.WalkLawsBesides
import Derived.WalkMore
import Derived.WalkSmall
import Derived.ScopeJumps
import Derived.Below
import Derived.BigQuiet
import Derived.Lib.Hide
import Derived.IntWalk
import Derived.Laws.StructEq
set_option linter.unusedSimpArgs false
set_option linter.unusedVariables false
namespace Go.Proofs.YtknefjigdlbacaaGreatDoor
open Go.RowKit Go.Maps
open Ac (A)
section
variable {B : Nat} {w w' : World} {t c k : Nat} {ad : Option Addr} {gs : List Nat} {x : A}
set_option maxHeartbeats 1000000 in
theorem tload_any (b i : Nat) (h : Ts B w t ad gs c k x) (hx : k = gs.length → ⟨1, b, (i : Int), 0, 0⟩ = x) (hm : gs.length ≤ 1000000) : Calls Tryz.prog 47 #[.pointer (some ⟨t, 0, none⟩), .int .u64 (b : Int), .int .i64 (i : Int)] w fun e w' => e = .returned (.int .u64 ((gs.getD k 0 : Nat) : Int)) ∧ Ts B w' t ad gs c (k + 1) x ∧ Chg t w w' := by
  have K := Lib.hid (show Calls Tryz.prog 53 #[.pointer (some ⟨t, 0, none⟩), .agg #[.int .i64 1, .int .u64 (b : Int), .int .i64 (i : Int), .int .u64 0, .int .u64 0]] w fun e w' => e = .returned (.int .u64 ((gs.getD k 0 : Nat) : Int)) ∧ Ts B w' t ad gs c (k + 1) x ∧ Chg t w w' from tdo_any (y := ⟨1, b, (i : Int), 0, 0⟩) h hx hm)
  clear h hx
  generalize gs.getD k 0 = y at *
  go_enter Tryz.func47, Tryz.ntmps47
  go_wp2_with fail
  with_reducible refine K.out.mono ?_
  rintro e w' ⟨rfl, h1, h2⟩
  have H1 := Lib.hid h1
  have H2 := Lib.hid h2
  clear h1 h2
  go_wp2
  go_ret
  exact ⟨rfl, H1.out, H2.out⟩
set_option maxHeartbeats 1000000 in
theorem tcas_any (b i o n : Nat) (h : Ts B w t ad gs c k x) (hx : k = gs.length → ⟨3, b, (i : Int), o, n⟩ = x) (hm : gs.length ≤ 1000000) : Calls Tryz.prog 52 #[.pointer (some ⟨t, 0, none⟩), .int .u64 (b : Int), .int .i64 (i : Int), .int .u64 (o : Int), .int .u64 (n : Int)] w fun e w' => e = .returned (.int .u64 ((gs.getD k 0 : Nat) : Int)) ∧ Ts B w' t ad gs c (k + 1) x ∧ Chg t w w' := by
  have K := Lib.hid (show Calls Tryz.prog 53 #[.pointer (some ⟨t, 0, none⟩), .agg #[.int .i64 3, .int .u64 (b : Int), .int .i64 (i : Int), .int .u64 (o : Int), .int .u64 (n : Int)]] w fun e w' => e = .returned (.int .u64 ((gs.getD k 0 : Nat) : Int)) ∧ Ts B w' t ad gs c (k + 1) x ∧ Chg t w w' from tdo_any (y := ⟨3, b, (i : Int), o, n⟩) h hx hm)
  clear h hx
  generalize gs.getD k 0 = y at *
  go_enter Tryz.func52, Tryz.ntmps52
  go_wp2_with fail
  with_reducible refine K.out.mono ?_
  rintro e w' ⟨rfl, h1, h2⟩
  have H1 := Lib.hid h1
  have H2 := Lib.hid h2
  clear h1 h2
  go_wp2
  go_ret
  exact ⟨rfl, H1.out, H2.out⟩
end
theorem getD_drop (l : List Nat) (k j : Nat) : (l.drop k).getD j 0 = l.getD (k + j) 0 := by
  rw [List.getD_eq_getElem?_getD, List.getD_eq_getElem?_getD, List.getElem?_drop]
/-- A block aside. -/
structure Aside (F : Nat → Prop) (w : World) (z : Nat) (o : Obj) : Prop where
  at' : w.heap[z]? = some o
  apart : ¬ F z
theorem Aside.lt {F : Nat → Prop} {w : World} {z : Nat} {o : Obj} (h : Aside F w z o) : z < w.heap.size := (Array.getElem?_eq_some_iff.1 h.at').1
theorem Aside.tn {F F' : Nat → Prop} {w w' : World} {z : Nat} {o : Obj} (h : Aside F w z o) (ht : Tn F F' w w') : Aside F' w' z o :=
  ⟨(ht.block z h.lt h.apart).trans h.at', fun e => (ht.foot z e).elim h.apart (fun e2 => by have := h.lt; omega)⟩
theorem Aside.below {F : Nat → Prop} {w w' : World} {z : Nat} {o : Obj} (h : Aside F w z o) (hb : Below w.heap.size w w') : Aside F w' z o := h.tn (Tn.of_below hb)
theorem Aside.cell {F : Nat → Prop} {w : World} {z : Nat} {cs : Array Value} {t : TypeId} {zz : Nat × Nat} (h : Aside F w z (.cells cs t zz)) (i : Nat) {v : Value} (hv : cs[i]? = some v) : w.cell? ⟨z, i, none⟩ = some v := by
  simp [World.cell?, h.at', hv]
/-- The cells of a site. -/
abbrev siteC (d t n k s : Int) : Array Value := #[.int .u64 d, .int .i64 t, .int .i64 n, .int .i64 k, .int .u64 s]
end Go.Proofs.YtknefjigdlbacaaGreatDoor
set_option linter.unusedSimpArgs false
set_option linter.unusedVariables false
namespace Go.Proofs.YtknefjigdlbacaaGreatDoor
open Go.RowKit Go.Maps
open Ac (A)
/-- The first i answers, and 0 behind their end. -/
def lw (gs : List Nat) (i : Nat) : List Int := (List.range i).map fun j => ((gs.getD j 0 : Nat) : Int)
theorem lw_len (gs : List Nat) (i : Nat) : (lw gs i).length = i := by simp [lw]
theorem lw_next (gs : List Nat) (i : Nat) : lw gs (i + 1) = lw gs i ++ [((gs.getD i 0 : Nat) : Int)] := by simp [lw, List.range_succ]
theorem lw_wf {gs : List Nat} (hw : ∀ x ∈ gs, x < 18446744073709551616) (i : Nat) : ∀ x ∈ lw gs i, 0 ≤ x ∧ x ≤ 18446744073709551615 := by
  intro x hx
  unfold lw at hx
  rw [List.mem_map] at hx
  obtain ⟨j, -, rfl⟩ := hx
  have := Rd.wf_getD hw j
  omega
theorem lw_up {gs : List Nat} : ∀ {i : Nat}, i ≤ gs.length → lw gs i = Kr.up (gs.take i)
  | 0, _ => by simp [lw, Kr.up]
  | i + 1, h => by
    rw [lw_next, lw_up (by omega), List.take_add_one, List.getD_eq_getElem?_getD, List.getElem?_eq_getElem (by omega), Option.toList_some]
    unfold Kr.up
    rw [List.map_append]
    rfl
theorem lw_rd {gs : List Nat} (h : Rd.sz gs ≤ gs.length) : lw gs (Rd.sz gs) = Rd.rd gs (Rd.sz gs) := by
  rw [lw_up h]
  unfold Rd.rd
  rw [Rd.nr_no (Nat.lt_irrefl _)]
theorem chg_grown {t : Nat} {W w1 w2 : World} {row : Option Nat} (h : Chg t W w1) (hg : w1.grownBy w2 row) (hr : ∀ k, row = some k → W.heap.size ≤ k) : Chg t W w2 :=
  ⟨hg.os.trans h.os, hg.tape.trans h.tape, hg.output.trans h.output, Nat.le_trans h.size hg.size, fun k hk hF => (hg.block k (Nat.lt_of_lt_of_le hk h.size) (fun e => by have := hr k e.symm; omega)).trans (h.block k hk hF), fun k hk => .inl hk⟩
theorem chg_below {t : Nat} {W w1 w2 : World} (h : Chg t W w1) (hb : Below w1.heap.size w1 w2) : Chg t W w2 := h.trans (Tn.of_below hb)
theorem chg_alloc {t : Nat} {W w1 : World} (h : Chg t W w1) (o : Obj) : Chg t W (w1.alloc o) := chg_below h ((Below.refl _ _).alloc (Nat.le_refl _) _)
theorem row_keep {w w' : World} {B n : Nat} {v : Value} {xs : List Value} (h : w.ownsRow B 22 1 v n xs) {t : Nat} (hc : Chg t w w') (ht : t < B) : w'.ownsRow B 22 1 v n xs :=
  (hc.row h fun k hk e => by have := (h.lt k hk).1; omega).1
/-- What the document's Read comes to. -/
def Toldr (B t k0 : Nat) (ad : Option Addr) (GS gs : List Nat) (c : Nat) (X : A) (w : World) (e : Ending) (w' : World) : Prop :=
  ∃ (k v : List UInt8) (m : Nat), e = .returned (pr k v) ∧ (Rd.sz gs ≤ gs.length → k = Rd.key gs ∧ v = Rd.val gs ∧ m = Rd.sz gs) ∧ Ts B w' t ad GS c (k0 + m) X ∧ (GS.length < k0 + m ↔ gs.length < Rd.sz gs) ∧ Chg t w w'
set_option maxRecDepth 100000 in
set_option maxHeartbeats 4000000 in
theorem rdread_from {B : Nat} {w : World} {t c : Nat} {ad : Option Addr} {GS gs : List Nat} {X : A} (k0 b : Nat) (hgs : gs = GS.drop k0) (h : Ts B w t ad GS c k0 X) (hX : k0 ≤ GS.length → gs.length < Rd.sz gs → X = ⟨1, b, (gs.length : Int), 0, 0⟩) (hw0 : ∀ x ∈ GS, x < 18446744073709551616) (hm0 : GS.length ≤ 1000) :
    Calls Tryz.prog 109 #[.pointer (some ⟨t, 0, none⟩), .int .u64 (b : Int)] w (Toldr B t k0 ad GS gs c X w) := by
  have hw : ∀ x ∈ gs, x < 18446744073709551616 := fun x hx => hw0 x (by rw [hgs] at hx; exact List.mem_of_mem_drop hx)
  have hlen : gs.length = GS.length - k0 := by rw [hgs, List.length_drop]
  have hm : gs.length ≤ 1000 := by omega
  obtain ⟨i0, hi, hz0, hz1, hz2⟩ := info_parts info_u64
  have Hz0 := Lib.hid hz0; clear hz0
  have Hz1 := Lib.hid hz1; clear hz1
  have Hz2 := Lib.hid hz2; clear hz2
  have Hi := Lib.hid hi; clear hi
  have hs := Rd.sz_bd gs
  have hy0 := Rd.wf_getD hw 0
  have KS := fun w => rsize_any ((gs.getD 0 0 : Nat) : Int) w (by omega) (by omega)
  rw [← Rd.sz_int] at KS
  have KL : ∀ (W : World) (k : Nat), k < Rd.sz gs → Ts B W t ad GS c (k0 + k) X → Calls Tryz.prog 47 #[.pointer (some ⟨t, 0, none⟩), .int .u64 (b : Int), .int .i64 (k : Int)] W fun e w' => e = .returned (.int .u64 ((gs.getD k 0 : Nat) : Int)) ∧ Ts B w' t ad GS c (k0 + (k + 1)) X ∧ Chg t W w' := fun W k hk h => by
    rw [hgs, getD_drop]
    refine tload_any b k h (fun e => ?_) (by omega)
    rw [hX (by omega) (by omega)]
    congr 1
    omega
  have KR : ∀ (W : World) (i : Nat) (A : Option Addr) (cc : Nat), i ≤ 6 → Sl .u64 W W.heap.size A (lw gs i) → Calls Tryz.prog 142 #[.slice A i cc] W (Gives (texts (Bx.key (lw gs i)) (Bx.val (lw gs i))) W) := fun W i A cc h6 hsl => by
    have := rread_any (lw gs i) A cc W (by rw [lw_len]; omega) (lw_wf hw i) hsl
    rwa [lw_len] at this
  have HS := Lib.hid KS; clear KS
  have HL := Lib.hid KL; clear KL hX
  have HG := Lib.hid hlen; clear hlen
  have HR := Lib.hid KR; clear KR
  obtain ⟨n, hn⟩ : ∃ n, n = Rd.sz gs := ⟨_, rfl⟩
  obtain ⟨m, hmm⟩ : ∃ m, m = gs.length := ⟨_, rfl⟩
  rw [← hn] at hs HS
  rw [← hmm] at hm
  have HN := Lib.hid hn
  have HM := Lib.hid hmm
  clear hn hmm hy0
  obtain ⟨W, hW⟩ : ∃ W, W = w.alloc (.cells #[.string ⟨#[]⟩, .string ⟨#[]⟩] 135) := ⟨_, rfl⟩
  have hwn : W.heap[w.heap.size]? = some (.cells #[.string ⟨#[]⟩, .string ⟨#[]⟩] 135 (0, 0)) := by rw [hW]; exact heap_alloc_new w _
  have hbW : Below w.heap.size w W := by rw [hW]; exact (Below.refl _ w).alloc (Nat.le_refl _) _
  have HWN := Lib.hid hwn
  have HBW := Lib.hid hbW
  have HLT := Lib.hid (show w.heap.size < W.heap.size from (Array.getElem?_eq_some_iff.1 hwn).1)
  have HTT := Lib.hid (show t < w.heap.size from h.own.lt)
  have K0 := Lib.hid (HL.out W 0 (by have := Rd.sz_bd gs; omega) (h.below hbW))
  have HB := Lib.hid (show B ≤ t ∧ B ≤ w.heap.size from ⟨h.tB, h.bw⟩)
  obtain ⟨g0, hg0⟩ : ∃ g0, g0 = gs.getD 0 0 := ⟨_, rfl⟩
  rw [← hg0] at K0 HS
  have HG0 := Lib.hid hg0
  clear h hwn hbW hg0 hw hw0 hgs
  have K0 := Lib.hid (show Calls Tryz.prog 47 #[.pointer (some ⟨t, 0, none⟩), .int .u64 (b : Int), .int .i64 0] W _ from K0.out)
  go_enter Tryz.func109, Tryz.ntmps109
  go_wp2_with fail
  rw [← hW]
  clear hW
  with_reducible refine K0.out.mono ?_
  rintro e w1 ⟨rfl, h1, hc1⟩
  have H1 := Lib.hid h1
  have HC1 := Lib.hid hc1
  clear h1 hc1 K0
  go_wp2_with fail
  obtain ⟨w2, hw2⟩ : ∃ w2, w2 = w1.alloc (.cells #[.int .u64 (g0 : Int)] 22) := ⟨_, rfl⟩
  have hb2 : Below w1.heap.size w1 w2 := by rw [hw2]; exact (Below.refl _ w1).alloc (Nat.le_refl _) _
  have hr2 : w2.ownsRow W.heap.size 22 1 (.slice (some ⟨w1.heap.size, 0, none⟩) 1 1) 1 (us (lw gs 1)) := by
    have e1 : us (lw gs 1) = #[Value.int .u64 (g0 : Int)].toList := by rw [HG0.out]; rfl
    rw [hw2, e1]
    exact World.ownsRow_lit (size := 1) w1 #[.int .u64 (g0 : Int)] 1 HC1.out.size (by unfold maxLen; omega) rfl
  have hcell : w2.cell? ⟨w1.heap.size, 0, none⟩ = some (.int .u64 (g0 : Int)) := by
    rw [hr2.cellAt 0 (by omega), HG0.out]; rfl
  rw [← hw2]
  clear hw2
  have H2 := Lib.hid (H1.out.below hb2)
  have HC2 := Lib.hid (chg_below HC1.out hb2)
  have HR2 := Lib.hid hr2
  clear hr2 hb2 H1 HC1
  generalize w1.heap.size = z1 at hcell HR2 ⊢
  with_reducible refine (HS.out _).mono ?_
  rintro e w3 ⟨rfl, rfl⟩
  clear HS hcell
  go_wp2
  go_loopw [5, 7] (fun v i wr => ∃ k : Nat, 1 ≤ k ∧ k ≤ n ∧ k ≤ m + 1 ∧ i = .int .i64 k ∧ wr.ownsRow W.heap.size 22 1 v k (us (lw gs k)) ∧ Ts B wr t ad GS c (k0 + k) X ∧ Chg t W wr) (fun _ i _ => n - (intOf i).toNat)
  case atStart => exact ⟨1, by omega, by omega, by omega, rfl, HR2.out, H2.out, HC2.out⟩
  case round =>
    clear HR2 H2 HC2
    obtain ⟨k, hk1, hkn, hkm, rfl, hown, hts, hch⟩ := hrel
    have o2 := hts.own.c2
    by_cases hgo : k < n ∧ k ≤ m
    · obtain ⟨hg1, hg2⟩ := hgo
      rw [decide_eq_false (by have := HM.out; have := HG.out; omega)] at o2
      have KL := Lib.hid (HL.out wr k (by have := HN.out; omega) hts)
      have HLW := Lib.hid (lw_next gs k)
      have HCH := Lib.hid hch
      have HO := Lib.hid hown
      clear hts hch hown
      generalize gs.getD k 0 = y at *
      go_wp2_with fail
      with_reducible refine KL.out.mono ?_
      rintro e w4 ⟨rfl, h4, hc4⟩
      have H4 := Lib.hid h4
      have HC4 := Lib.hid (HCH.out.trans hc4)
      have HO4 := Lib.hid (row_keep HO.out hc4 (by have := HTT.out; have := HLT.out; omega))
      clear h4 hc4 KL HO HCH
      go_wp2_with (at_builtin; refine wpList_append_own _ rfl _ _ 29 rfl W.heap.size 22 i0 (.int .u64 0) 1 8 Tryz.underlying29 Hi.out Hz0.out Hz1.out Hz2.out rfl (by decide) _ _ _ rfl (HO4.out.alloc _) ⟨_, 0, none⟩ 1 1 [.int .u64 (y : Int)] rfl rfl ?c1 ?c2 ?c3 ?c4 ?c5 ?_)
      case c1 => exact cell_one_new _ _ _
      case c2 => simp [Value.oneCell']
      case c3 => unfold maxLen; omega
      case c4 => omega
      case c5 => have := HC4.out.size; simp; omega
      intro v' w5 hown' hgrow _
      have hc5 : Chg t W w5 := chg_grown (chg_alloc HC4.out _) hgrow (fun j e => (HO4.out.lt j e).1)
      have hown5 : w5.ownsRow W.heap.size 22 1 v' (k + 1) (us (lw gs (k + 1))) := by
        rw [HLW.out]; unfold us; rw [List.map_append]; exact hown'
      have h5 : Ts B w5 t ad GS c (k0 + (k + 1)) X := by
        have h4' := H4.out.below ((Below.refl _ w4).alloc (Nat.le_refl _) (.cells #[.int .u64 (y : Int)] 22))
        refine ⟨h4'.tB, h4'.own.keep (hgrow.block t h4'.own.lt (fun e => ?_)), h4'.sl.below ?_⟩
        · have := (HO4.out.lt t e.symm).1
          have := HTT.out; have := HLT.out; omega
        · exact (Below.refl B _).grown hgrow (Nat.le_trans h4'.tB (Nat.le_of_lt h4'.own.lt)) (fun j e => by have := (HO4.out.lt j e).1; have := HB.out.2; have := HLT.out; omega)
      clear hown' hgrow HO4 H4 HC4
      go_wp2
      go_roundw
      case rel => exact ⟨k + 1, by omega, by omega, by omega, by go_num, hown5, h5, hc5⟩
      case measure => simp [intOf]; omega
    · have hend : (k < n ∧ decide (GS.length < k0 + k) = true) ∨ ¬ (k : Int) < (n : Int) := by
        by_cases hkn2 : k < n
        · exact .inl ⟨hkn2, decide_eq_true (by have := HM.out; have := HG.out; omega)⟩
        · exact .inr (by omega)
      have hfin : (Rd.sz gs ≤ gs.length → k = Rd.sz gs) ∧ (GS.length < k0 + k ↔ gs.length < Rd.sz gs) := by
        have := HM.out; have := HN.out; have := HG.out
        constructor
        · intro; omega
        · constructor <;> intro <;> omega
      have hR : ∃ A cc, u5 = .slice A k cc := by
        rcases hown.2 with ⟨e1, h0⟩ | ⟨g, cap, cur, e1, _⟩
        · omega
        · exact ⟨_, _, e1⟩
      obtain ⟨AA, cc, rfl⟩ := hR
      have KR := Lib.hid (HR.out wr k AA cc (by omega) (Sl.of_own hown))
      have HF := Lib.hid (show Rd.sz gs ≤ gs.length → Bx.key (lw gs k) = Rd.key gs ∧ Bx.val (lw gs k) = Rd.val gs ∧ k = Rd.sz gs from fun h => by have e := hfin.1 h; rw [e, lw_rd h]; exact ⟨rfl, rfl, rfl⟩)
      have HF2 := Lib.hid hfin.2
      have HTS := Lib.hid hts
      have HCH := Lib.hid hch
      generalize Bx.key (lw gs k) = ka at *
      generalize Bx.val (lw gs k) = va at *
      clear hfin hts hch hown hgo
      rcases hend with ⟨hkn2, hov⟩ | hkn2
      all_goals
        try rw [hov] at o2
        try clear hov
        go_wp2_with fail
        with_reducible refine KR.out.mono ?_
        rintro e w6 ⟨rfl, hb6⟩
        have hc6 := chg_below HCH.out hb6
        have h6 := (hc6.block w.heap.size HLT.out (by have := HTT.out; omega)).trans HWN.out
        have HC6 := Lib.hid hc6
        have HT6 := Lib.hid (HTS.out.below hb6)
        obtain ⟨z, hz⟩ : ∃ z, z = w.heap.size := ⟨_, rfl⟩
        have d0 : w6.cell? ⟨w.heap.size, 0, none⟩ = some (.string ⟨#[]⟩) := by simp [World.cell?, h6]
        have d1 : w6.cell? ⟨w.heap.size, 1, none⟩ = some (.string ⟨#[]⟩) := by simp [World.cell?, h6]
        have f0 : w6.frozen? ⟨w.heap.size, 0, none⟩ = false := by simp [World.frozen?, h6]
        have f1 : w6.frozen? ⟨w.heap.size, 1, none⟩ = false := by simp [World.frozen?, h6]
        have e0 : ((w6.setCell ⟨w.heap.size, 0, none⟩ (.string ⟨ka.toArray⟩)).setCell ⟨w.heap.size, 1, none⟩ (.string ⟨va.toArray⟩)).heap[w.heap.size]? = some (.cells #[.string ⟨ka.toArray⟩, .string ⟨va.toArray⟩] 135 (0, 0)) := by
          rw [heap_setc (heap_setc h6 _ _) _ _]; simp
        have HE := Lib.hid e0; clear e0
        have HZ := Lib.hid hz
        rw [← hz] at d0 d1 f0 f1 HE ⊢
        clear h6 hz hc6 hb6 KR HTS HCH
        go_wp2
        have g0 := HE.out
        refine bodyPost_ret (v := pr ka va) ?_ rfl ?_
        · simp [results, Tryz.results109, go_sem, World.cell?, g0]
        · have hzz := HZ.out
          have htt := HTT.out
          refine ⟨ka, va, k, rfl, HF.out, ⟨HT6.out.tB, ?_, ?_⟩, HF2.out, ?_⟩
          · exact HT6.out.own.keep ((Below.heap_setCell _ _ _ _ (by simp only; omega)).trans (Below.heap_setCell _ _ _ _ (by simp only; omega)))
          · exact HT6.out.sl.below (((Below.refl B _).setCell (p := ⟨z, 0, none⟩) (by have := HB.out.2; simp only; omega) _).setCell (p := ⟨z, 1, none⟩) (by have := HB.out.2; simp only; omega) _)
          · exact ((show Chg t w _ from Tn.of_below HBW.out).trans HC6.out).then_below (((Below.refl _ _).setCell (p := ⟨z, 0, none⟩) (by simp only; omega) _).setCell (p := ⟨z, 1, none⟩) (by simp only; omega) _)
end Go.Proofs.YtknefjigdlbacaaGreatDoor
set_option linter.unusedSimpArgs false
set_option linter.unusedVariables false
namespace Go.Proofs.YtknefjigdlbacaaGreatDoor
open Go.RowKit
theorem u64_wrap (x : Int) : IntKind.u64.wrap x = x % 18446744073709551616 := by
  simp [IntKind.wrap, IntKind.bits, IntKind.signed]
set_option maxHeartbeats 2000000 in
/-- route.Groups. -/
theorem groups_any (log : Int) (w : World) : Calls Tryz.prog 70 #[.int .i64 log] w (Same (.int .i64 (Tb.grp log : Nat)) w) := by
  by_cases h : 0 ≤ log
  · have h' : ¬ log < 0 := by omega
    by_cases h2 : 9 < log
    · rw [Tb.grp_out (.inr h2)]
      go_enter Tryz.func70, Tryz.ntmps70
      go_wp2
      go_ret
      exact ⟨rfl, rfl⟩
    · rcases Tb.ten h (by omega) with rfl | rfl | rfl | rfl | rfl | rfl | rfl | rfl | rfl | rfl
      all_goals
        go_enter Tryz.func70, Tryz.ntmps70
        go_wp2
        go_ret
        exact ⟨rfl, rfl⟩
  · have h' : log < 0 := by omega
    rw [Tb.grp_out (.inl h')]
    go_enter Tryz.func70, Tryz.ntmps70
    go_wp2
    go_ret
    exact ⟨rfl, rfl⟩
set_option maxRecDepth 100000 in
set_option maxHeartbeats 2000000 in
/-- The document's Groups: doublings. -/
theorem rgroups_any (log : Int) (w : World) : Calls Tryz.prog 75 #[.int .i64 log] w (Same (.int .i64 (Tb.grp log : Nat)) w) := by
  by_cases h : 0 ≤ log
  · have h' : ¬ log < 0 := by omega
    by_cases h2 : 9 < log
    · rw [Tb.grp_out (.inr h2)]
      go_enter Tryz.func75, Tryz.ntmps75
      go_wp2
      go_ret
      exact ⟨rfl, rfl⟩
    · rw [Tb.grp_in h (by omega)]
      go_enter Tryz.func75, Tryz.ntmps75
      go_wp2
      go_loop [3, 4] (fun u c => ∃ k : Nat, (k : Int) ≤ log ∧ c = .int .i64 k ∧ u = .int .i64 ((2 ^ k : Nat) : Int)) (fun _ c => (log - intOf c).toNat)
      case atStart => exact ⟨0, by omega, rfl, rfl⟩
      case round =>
        obtain ⟨k, hk, rfl, rfl⟩ := hrel
        have hp : 2 ^ k ≤ 2 ^ 9 := Nat.pow_le_pow_right (by omega) (by omega)
        have hp1 : (2 ^ k : Nat) ≤ 512 := hp
        clear hp
        by_cases hlt : (k : Int) < log
        · have hpw : ((2 ^ (k + 1) : Nat) : Int) = 2 * ((2 ^ k : Nat) : Int) := by rw [Nat.pow_succ]; omega
          have Hpw := Lib.hid hpw; clear hpw
          generalize hq : (2 ^ k : Nat) = q at hp1 Hpw ⊢
          go_wp2
          go_round
          case rel => exact ⟨k + 1, by omega, by go_num, by rw [Hpw.out]⟩
          case measure => simp [intOf]; omega
        · obtain rfl : log = k := by omega
          go_wp2
          go_ret
          exact ⟨rfl, rfl⟩
  · have h' : log < 0 := by omega
    rw [Tb.grp_out (.inl h')]
    go_enter Tryz.func75, Tryz.ntmps75
    go_wp2
    go_ret
    exact ⟨rfl, rfl⟩
/-- A place, as a value. -/
def pv (p : Int × Int × Int) : Value := .agg #[.int .i64 p.1, .int .i64 p.2.1, .int .i64 p.2.2]
set_option maxRecDepth 100000 in
set_option maxHeartbeats 2000000 in
/-- table.Where. -/
theorem where_any (log c : Int) (w : World) (h0 : -9223372036854775808 ≤ c) (h1 : c ≤ 9223372036854775807) : Calls Tryz.prog 151 #[.int .i64 log, .int .i64 c] w (Gives (pv (Tb.plc (Tb.grp log) c)) w) := by
  have G := Lib.hid (fun w => groups_any log w)
  have hn := Tb.grp_le log
  generalize Tb.grp log = n at *
  rcases Tb.plc_ways n c with ⟨a, e⟩ | ⟨a, k0, e⟩ | ⟨a, k0, k1, e⟩ | ⟨a, k0, k1, e⟩ | ⟨a, k0, k1, k2, e⟩ | ⟨a, k0, k1, k2, e⟩
  · rw [e]; clear e
    subst a
    go_enter Tryz.func151, Tryz.ntmps151
    go_wp2_with fail
    refine scope_hops 3 ?_
    go_wp2_with fail
    with_reducible refine (G.out _).mono ?_
    rintro e w1 ⟨rfl, rfl⟩
    go_wp2
    go_step3
    refine Hop.go rfl ?_
    go_wp2
    rw [Hop.ret]
    exact bodyPost_ret (v := pv (0, 0, 0)) (by simp [results, Tryz.results151, go_sem, pv]) rfl ⟨rfl, (Below.refl _ _).alloc (Nat.le_refl _) _⟩
  · rw [e]; clear e
    have a' : ((n : Int) == 0) = false := by simpa using a
    go_enter Tryz.func151, Tryz.ntmps151
    go_wp2_with fail
    refine scope_hops 3 ?_
    go_wp2_with fail
    with_reducible refine (G.out _).mono ?_
    rintro e w1 ⟨rfl, rfl⟩
    go_wp2
    go_step3
    refine Hop.go rfl ?_
    go_wp2
    rw [Hop.ret]
    exact bodyPost_ret (v := pv (0, 0, 0)) (by simp [results, Tryz.results151, go_sem, pv]) rfl ⟨rfl, (Below.refl _ _).alloc (Nat.le_refl _) _⟩
  · rw [e]; clear e
    have a' : ((n : Int) == 0) = false := by simpa using a
    have a0 : (c < 0) = False := by simp; omega
    go_enter Tryz.func151, Tryz.ntmps151
    go_wp2_with fail
    refine scope_hops 3 ?_
    go_wp2_with fail
    with_reducible refine (G.out _).mono ?_
    rintro e w1 ⟨rfl, rfl⟩
    go_wp2
    rw [Hop.ret]
    exact bodyPost_ret (v := pv (1, 0, 0)) (by simp [results, Tryz.results151, go_sem, pv]) rfl ⟨rfl, (Below.refl _ _).alloc (Nat.le_refl _) _⟩
  · rw [e]; clear e
    have a' : ((n : Int) == 0) = false := by simpa using a
    have a0 : (c < 0) = False := by simp; omega
    go_enter Tryz.func151, Tryz.ntmps151
    go_wp2_with fail
    refine scope_hops 3 ?_
    go_wp2_with fail
    with_reducible refine (G.out _).mono ?_
    rintro e w1 ⟨rfl, rfl⟩
    go_wp2
    go_step3
    refine Hop.go rfl ?_
    go_wp2
    rw [Hop.ret]
    exact bodyPost_ret (v := pv (2, c - 7, 0)) (by simp [results, Tryz.results151, go_sem, pv]) rfl ⟨rfl, (Below.refl _ _).alloc (Nat.le_refl _) _⟩
  · rw [e]; clear e
    have a' : ((n : Int) == 0) = false := by simpa using a
    have a0 : (c < 0) = False := by simp; omega
    go_enter Tryz.func151, Tryz.ntmps151
    go_wp2_with fail
    refine scope_hops 3 ?_
    go_wp2_with fail
    with_reducible refine (G.out _).mono ?_
    rintro e w1 ⟨rfl, rfl⟩
    go_wp2
    go_step3
    refine Hop.go rfl ?_
    go_wp2
    go_step3
    refine Hop.go rfl ?_
    go_wp2
    rw [Hop.ret]
    exact bodyPost_ret (v := pv (3, (c - 7 - (n : Int)) / 8, (c - 7 - (n : Int)) % 8)) (by simp [results, Tryz.results151, go_sem, pv]) rfl ⟨rfl, (Below.refl _ _).alloc (Nat.le_refl _) _⟩
  · rw [e]; clear e
    have a' : ((n : Int) == 0) = false := by simpa using a
    have a0 : (c < 0) = False := by simp; omega
    go_enter Tryz.func151, Tryz.ntmps151
    go_wp2_with fail
    refine scope_hops 3 ?_
    go_wp2_with fail
    with_reducible refine (G.out _).mono ?_
    rintro e w1 ⟨rfl, rfl⟩
    go_wp2
    go_step3
    refine Hop.go rfl ?_
    go_wp2
    go_step3
    refine Hop.go rfl ?_
    go_wp2
    go_step3
    refine Hop.go rfl ?_
    go_wp2
    rw [Hop.ret]
    exact bodyPost_ret (v := pv (0, 0, 0)) (by simp [results, Tryz.results151, go_sem, pv]) rfl ⟨rfl, (Below.refl _ _).alloc (Nat.le_refl _) _⟩
end Go.Proofs.YtknefjigdlbacaaGreatDoor
