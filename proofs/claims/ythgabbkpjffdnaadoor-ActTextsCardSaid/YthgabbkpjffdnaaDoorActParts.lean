/-
  The walk of Parts: a text's parts, between blanks. By an AI agent.
-/
import Derived.Test.YthgabbkpjffdnaaDoorActCut
import Derived.Test.YthgabbkpjffdnaaDoorArenaRef3
set_option linter.unusedSimpArgs false
set_option linter.unusedVariables false
namespace Go.Proofs.YthgabbkpjffdnaaDoor
open Go.RowKit Go.Maps
/-- The parts of a text. -/
def partsOf : List UInt8 → List (List UInt8)
  | [] => [[]]
  | a :: r => if a = 32 then [] :: partsOf r else match partsOf r with | [] => [[a]] | p :: ps => (a :: p) :: ps
theorem partsOf_ne : ∀ l, partsOf l ≠ []
  | [] => by simp [partsOf]
  | a :: r => by unfold partsOf; split; · simp
                 · split <;> simp
theorem partsOf_cons {x : UInt8} (hx : ¬ x = 32) {t p : List UInt8} {ps : List (List UInt8)} (h : partsOf t = p :: ps) : partsOf (x :: t) = (x :: p) :: ps := by simp [partsOf, hx, h]
/-- Ahead of a place: the parts that are whole, and the one under way. -/
theorem partsOf_snoc_blank : ∀ (a b : List UInt8), (32 : UInt8) ∉ b → ∀ r, partsOf (b ++ 32 :: r) = b :: partsOf r
  | _, [], _, r => by simp [partsOf]
  | s, x :: b, h, r => by
    have hx : ¬ x = 32 := fun e => h (by simp [e])
    have hb : (32 : UInt8) ∉ b := fun e => h (by simp [e])
    exact partsOf_cons hx (partsOf_snoc_blank s b hb r)
theorem partsOf_end : ∀ (b : List UInt8), (32 : UInt8) ∉ b → partsOf b = [b]
  | [], _ => rfl
  | x :: b, h => by
    have hx : ¬ x = 32 := fun e => h (by simp [e])
    have hb : (32 : UInt8) ∉ b := fun e => h (by simp [e])
    exact partsOf_cons hx (partsOf_end b hb)
theorem info_str : (Tryd.prog.info? 9).map (fun i => (i.zero, i.size, i.bytes)) = some (some (.string ⟨#[]⟩), 1, 16) := by kernel_rfl
/-- Texts as cells. -/
def tcs (ps : List (List UInt8)) : List Value := ps.map fun p => .string ⟨p.toArray⟩
/-- Where the loop is: the parts ahead are whole, from 'from' on no blank has come. -/
structure At (l : List UInt8) (f i : Nat) (ps : List (List UInt8)) : Prop where
  fi : f ≤ i
  il : i ≤ l.length
  all : partsOf l = ps ++ partsOf (l.drop f)
  no : (32 : UInt8) ∉ (l.drop f).take (i - f)
theorem At.start (l : List UInt8) : At l 0 0 [] := ⟨Nat.le_refl _, Nat.zero_le _, by simp, by simp⟩
theorem take_drop_snoc {l : List UInt8} {f i : Nat} (hf : f ≤ i) (hi : i < l.length) : (l.drop f).take (i + 1 - f) = (l.drop f).take (i - f) ++ [l[i]] := by
  rw [show i + 1 - f = (i - f) + 1 by omega, List.take_succ_eq_append_getElem (by simp; omega)]
  congr 2
  simp [List.getElem_drop]
  congr 1; omega
theorem At.next {l : List UInt8} {f i : Nat} {ps : List (List UInt8)} (h : At l f i ps) (hi : i < l.length) (hb : l[i] ≠ 32) : At l f (i + 1) ps := by
  refine ⟨by have := h.fi; omega, hi, h.all, ?_⟩
  rw [take_drop_snoc h.fi hi]
  simp only [List.mem_append, List.mem_singleton, not_or]
  exact ⟨h.no, fun e => hb e.symm⟩
theorem At.cut {l : List UInt8} {f i : Nat} {ps : List (List UInt8)} (h : At l f i ps) (hi : i < l.length) (hb : l[i] = 32) : At l (i + 1) (i + 1) (ps ++ [(l.drop f).take (i - f)]) := by
  refine ⟨Nat.le_refl _, hi, ?_, by simp⟩
  have e : l.drop f = (l.drop f).take (i - f) ++ 32 :: l.drop (i + 1) := by
    conv => lhs; rw [← List.take_append_drop (i - f) (l.drop f)]
    congr 1
    rw [List.drop_drop, show f + (i - f) = i by have := h.fi; omega, List.drop_eq_getElem_cons hi, hb]
  rw [h.all, List.append_assoc, e, partsOf_snoc_blank l _ h.no]
  conv => rhs; rw [← e]
  rfl
theorem At.done {l : List UInt8} {f : Nat} {ps : List (List UInt8)} (h : At l f l.length ps) : partsOf l = ps ++ [(l.drop f).take (l.length - f)] := by
  have e : (l.drop f).take (l.length - f) = l.drop f := List.take_of_length_le (by simp)
  have hn := h.no
  rw [e] at hn ⊢
  rw [h.all, partsOf_end _ hn]
/-- A new row of texts. -/
def Texts (ps : List (List UInt8)) (w : World) (e : Ending) (w' : World) : Prop := ∃ v, e = .returned v ∧ w'.ownsRow w.heap.size 9 1 v ps.length (tcs ps) ∧ Below w.heap.size w w'
theorem ba_cut (l : List UInt8) (f i : Nat) (h : f ≤ i) : (⟨l.toArray⟩ : ByteArray).extract f i = ⟨((l.drop f).take (i - f)).toArray⟩ := by
  have : ((⟨l.toArray⟩ : ByteArray).extract f i).data = l.toArray.extract f i := by simp [ByteArray.data_extract]
  cases he : (⟨l.toArray⟩ : ByteArray).extract f i with
  | mk d =>
    rw [he] at this
    simp only at this
    rw [this]
    congr 1
    apply Array.ext'
    simp [List.extract_eq_take_drop]
set_option maxRecDepth 100000 in
set_option maxHeartbeats 4000000 in
/-- ████ Parts. ████ -/
theorem parts_any (l : List UInt8) (hl : l.length ≤ 1000000) (w : World) : Calls Tryd.prog 44 #[.string ⟨l.toArray⟩, .int .u8 32] w (Texts (partsOf l) w) := by
  obtain ⟨i0, hi, hz0, hz1, hz2⟩ := info_parts info_str
  have Hz0 := Lib.hid hz0; clear hz0
  have Hz1 := Lib.hid hz1; clear hz1
  have Hz2 := Lib.hid hz2; clear hz2
  have Hi := Lib.hid hi; clear hi
  have HR0 := Lib.hid (World.ownsRow_lit (base := w.heap.size) (e := 9) (size := 1) w #[] 0 (by omega) (by decide) (by decide))
  have HB0 := Lib.hid ((Below.refl w.heap.size w).alloc (Nat.le_refl _) (.cells #[] 9))
  obtain ⟨s, hs⟩ : ∃ s : ByteArray, s = ⟨l.toArray⟩ := ⟨_, rfl⟩
  obtain ⟨N, hN⟩ : ∃ N, N = l.length := ⟨_, rfl⟩
  have hsN : s.size = N := by rw [hs, hN]; simp [ByteArray.size]
  rw [← hs]
  have HS := Lib.hid hs
  have HL := Lib.hid hN
  rw [← hN] at hl
  clear hs hN
  go_enter Tryd.func44, Tryd.ntmps44
  go_wp2_with fail
  go_loopw [5, 6, 7] (fun u fv iv wr => ∃ (f i : Nat) (ps : List (List UInt8)), ((i ≤ N ∧ At l f i ps ∧ fv = .int .i64 f) ∨ (i = N + 1 ∧ ps = partsOf l)) ∧ iv = .int .i64 i ∧ ps.length ≤ i ∧ wr.ownsRow w.heap.size 9 1 u ps.length (tcs ps) ∧ Below w.heap.size w wr) (fun _ _ i _ => N + 1 - (intOf i).toNat)
  case atStart => exact ⟨0, 0, [], .inl ⟨Nat.zero_le _, At.start l, rfl⟩, rfl, Nat.zero_le _, HR0.out, HB0.out⟩
  case round =>
    clear HR0 HB0
    obtain ⟨f, i, ps, hcase, rfl, hpl, hr, hb⟩ := hrel
    rcases hcase with ⟨hiN, hat, rfl⟩ | ⟨rfl, rfl⟩
    · have hiZ : (i : Int) ≤ (N : Int) := by omega
      have hfi := hat.fi
      have f0 : (0 : Int) ≤ (f : Int) := by omega
      have f1 : (f : Int) ≤ (i : Int) := by omega
      have hlen : l.length = N := HL.out.symm
      have HRow := Lib.hid hr
      have HB := Lib.hid hb
      have HT := Lib.hid hat
      clear hr hb hat
      by_cases hie : i = N
      · have heB : ((i : Int) == (N : Int)) = true := by simp [hie]
        have HIE := Lib.hid hie; clear hie
        have HD : Hid (partsOf l = ps ++ [(l.drop f).take (i - f)]) := Lib.hid (by
          have h := HT.out
          have e : i = l.length := by have := HIE.out; omega
          rw [e] at h ⊢
          exact h.done)
        have HE : Hid (tcs (ps ++ [(l.drop f).take (i - f)]) = tcs ps ++ [.string (s.extract f i)]) := Lib.hid (by rw [HS.out, ba_cut l f i hfi]; simp [tcs])
        go_wp2_with (at_builtin; refine wpList_append_own_at _ rfl _ _ 83 rfl w.heap.size 9 i0 (.string ⟨#[]⟩) 1 16 Tryd.underlying83 Hi.out Hz0.out Hz1.out Hz2.out rfl (by decide) _ _ _ rfl (HRow.out.alloc _) ⟨wr.heap.size, 0, none⟩ 1 1 [.string (s.extract f i)] rfl rfl (cell_one_new _ _ _) (by simp [Value.oneCell']) (by unfold maxLen; omega) (by omega) (by have := HB.out.size; simp; omega) ?_; intro v' w3 hown' hgrow _ hat')
        go_roundw
        case rel =>
          refine ⟨f, i + 1, ps ++ [(l.drop f).take (i - f)], .inr ⟨by have := HIE.out; omega, HD.out.symm⟩, by go_num, by simp; omega, ?_, HB.out.trans (((Below.refl _ wr).alloc HB.out.size _).trans ⟨hgrow.os, hgrow.tape, hgrow.output, hgrow.size, fun j hj => hgrow.block j (by have := HB.out.size; simp; omega) (fun e => by have := (HRow.out.lt j e.symm).1; omega)⟩)⟩
          rw [HE.out, List.length_append]
          exact hown'
        case measure => simp [intOf]; omega
      · have heB : ((i : Int) == (N : Int)) = false := by simp; omega
        have hlt : i < l.length := by omega
        have hlt' : i < s.size := by omega
        have hiZ' : (i : Int) < (N : Int) := by omega
        have hsi : s[i] = l[i] := by
          have h := HS.out
          subst h
          rfl
        by_cases hbl : l[i] = 32
        · have hq : ((s[i].toNat : Int) == 32) = true := by rw [hsi, hbl]; rfl
          have HD := Lib.hid (HT.out.cut hlt hbl)
          have HE : Hid (tcs (ps ++ [(l.drop f).take (i - f)]) = tcs ps ++ [.string (s.extract f i)]) := Lib.hid (by rw [HS.out, ba_cut l f i hfi]; simp [tcs])
          clear hsi hbl
          go_wp2_with (at_builtin; refine wpList_append_own_at _ rfl _ _ 83 rfl w.heap.size 9 i0 (.string ⟨#[]⟩) 1 16 Tryd.underlying83 Hi.out Hz0.out Hz1.out Hz2.out rfl (by decide) _ _ _ rfl (HRow.out.alloc _) ⟨wr.heap.size, 0, none⟩ 1 1 [.string (s.extract f i)] rfl rfl (cell_one_new _ _ _) (by simp [Value.oneCell']) (by unfold maxLen; omega) (by omega) (by have := HB.out.size; simp; omega) ?_; intro v' w3 hown' hgrow _ hat')
          go_roundw
          case rel =>
            refine ⟨i + 1, i + 1, ps ++ [(l.drop f).take (i - f)], .inl ⟨by omega, HD.out, by go_num⟩, by go_num, by simp; omega, ?_, HB.out.trans (((Below.refl _ wr).alloc HB.out.size _).trans ⟨hgrow.os, hgrow.tape, hgrow.output, hgrow.size, fun j hj => hgrow.block j (by have := HB.out.size; simp; omega) (fun e => by have := (HRow.out.lt j e.symm).1; omega)⟩)⟩
            rw [HE.out, List.length_append]
            exact hown'
          case measure => simp [intOf]; omega
        · have hq : ((s[i].toNat : Int) == 32) = false := by
            rw [hsi, beq_eq_false_iff_ne]
            intro e
            exact hbl (UInt8.toNat_inj.1 (show l[i].toNat = (32 : UInt8).toNat by have : (32 : UInt8).toNat = 32 := rfl; omega))
          have HD := Lib.hid (HT.out.next hlt hbl)
          clear hsi hbl
          go_wp2
          go_roundw
          case rel => exact ⟨f, i + 1, ps, .inl ⟨by omega, HD.out, rfl⟩, by go_num, by omega, HRow.out, HB.out⟩
          case measure => simp [intOf]; omega
    · have HRow := Lib.hid hr
      have HB := Lib.hid hb
      clear hr hb
      have hn : ¬ ((N + 1 : Nat) : Int) ≤ (N : Int) := by omega
      go_wp2_with fail
      go_ret
      exact ⟨_, rfl, HRow.out, HB.out⟩
end Go.Proofs.YthgabbkpjffdnaaDoor
