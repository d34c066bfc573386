/-
  The walk of 'natural': what a text of at most 20 bytes is as a word, or which error it has. By an AI agent.
-/
import Derived.Test.YthgabbkpjffdnaaDoorChecked
import Derived.Test.YthgabbkpjffdnaaDoorDigitMath
import Derived.WalkKit
import Derived.WalkSpells
import Derived.WalkLawsBesides
import Derived.WalkMore
import Derived.ScopeJumps
import Derived.Below
import Derived.Lib.Hide
namespace Go.Proofs.YthgabbkpjffdnaaDoor.Dt
open Go.RowKit
/-- A scope with jumps back to one label, the pass from the label at hand for the first way to it. -/
theorem scope_jumps {P : Program} {a : Act} {w : World} {Q : Exit → Act → World → Prop} {c rest : Code} (l : Nat) (J : Act → World → Prop) (μ : Act → World → Nat) (hf : findLabel c l = some (Code.skip.seq rest))
    (pass : ∀ a w, J a w → rest.wp P (Exit.jump l (fun a' w' => J a' w' ∧ μ a' w' < μ a w) Q) a w)
    (first : (∀ a w, J a w → rest.wp P (Exit.jump l J Q) a w) → c.wp P (Exit.jump l J Q) a w) : (Code.scope c).wp P Q a w := by
  refine wp_scope_jumps l J μ hf (first fun a w h => wp_mono (pass a w h) fun e a' w' he => ?_) fun a w h => wp_seq (wp_skip (pass a w h))
  cases e <;> first | exact he | exact ⟨he.1, he.2.1⟩
/-- What holds at each jump to the label: the digits ahead of the place are digits, and their number is kept. -/
def AtNext (s : ByteArray) (n : Int) (w : World) (a' : Act) (w' : World) : Prop :=
  w' = w.alloc (.cells #[.string s] 9) ∧ ∃ (k : Nat) (a : Int) (u3 u9 u10 u11 u12 u13 u14 u15 u16 u17 u18 u19 u20 u21 u22 u23 u24 u25 u26 u27 u28 u29 u30 u31 u32 u33 u34 u35 u36 u37 u38 u39 u40 u41 u42 u43 u44 u45 u46 u47 u48 u49 u50 u51 u52 u53 u54 : Value), a' = { tmps := #[.string s, .int .i64 n, .pointer (some ⟨w.heap.size, 0, none⟩), u3, .int .u64 0, .int .i64 0, .func (.func 90) #[] #[.pointer (some ⟨w.heap.size, 0, none⟩)], .int .u64 a, .int .i64 k, u9, u10, u11, u12, u13, u14, u15, u16, u17, u18, u19, u20, u21, u22, u23, u24, u25, u26, u27, u28, u29, u30, u31, u32, u33, u34, u35, u36, u37, u38, u39, u40, u41, u42, u43, u44, u45, u46, u47, u48, u49, u50, u51, u52, u53, u54], defers := [] } ∧ k < s.size ∧ a = (Dg.val (s.data.toList.take k) : Int) ∧ a ≤ 18446744073709551615 ∧ (s.data.toList.take k).all Dg.isDig = true
def Word2 (l : List UInt8) (n : Nat) (w : World) (e : Ending) (w' : World) : Prop := e = .returned (.tuple #[.int .u64 (Dg.wordV l n), .int .i64 (Dg.wordE l n)]) ∧ Below w.heap.size w w'
theorem word2_of {l : List UInt8} {n : Nat} {w : World} {v : Nat} {v' e : Int} {w' : World} (h : Dg.wordV l n = v ∧ Dg.wordE l n = e) (hv : v' = (v : Int)) (hb : Below w.heap.size w w') : Word2 l n w (.returned (.tuple #[.int .u64 v', .int .i64 e])) w' := by
  unfold Word2; rw [h.1, h.2, hv]; exact ⟨rfl, hb⟩
theorem ba_getElem (s : ByteArray) (k : Nat) (h : k < s.size) : s[k] = s.data.toList[k]'(by simpa using h) := by
  simp [ByteArray.getElem_eq_getElem_data]
theorem ba_len (s : ByteArray) : s.data.toList.length = s.size := Array.length_toList
theorem nat_bad {s : ByteArray} {k n : Nat} (hk : k < s.size) (h : ¬ (48 ≤ (s[k].toNat : Int) ∧ (s[k].toNat : Int) ≤ 57)) : Dg.wordV s.data.toList n = 0 ∧ Dg.wordE s.data.toList n = 3 := by
  refine Dg.word_bad (Dg.wf_at (k := k) (by rw [ba_len]; exact hk) ?_)
  rw [← ba_getElem s k hk]
  simp only [Dg.isDig, Bool.and_eq_false_iff, decide_eq_false_iff_not]
  omega
theorem nat_next {s : ByteArray} {k : Nat} {a : Int} (hk : k < s.size) (h48 : 48 ≤ (s[k].toNat : Int)) (h57 : (!decide ((s[k].toNat : Int) ≤ 57)) = false) (hall : (s.data.toList.take k).all Dg.isDig = true) (ha : a = (Dg.val (s.data.toList.take k) : Int)) :
    (s.data.toList.take (k + 1)).all Dg.isDig = true ∧ (Dg.val (s.data.toList.take (k + 1)) : Int) = 10 * a + ((s[k].toNat : Int) - 48) % 256 := by
  have h57' : (s[k].toNat : Int) ≤ 57 := by simpa using h57
  have hkl : k < s.data.toList.length := by rw [ba_len]; exact hk
  have e := ba_getElem s k hk
  have hd : Dg.isDig s.data.toList[k] = true := by
    rw [← e, Dg.isDig_iff]; omega
  refine ⟨Dg.all_succ hkl hall hd, ?_⟩
  rw [Dg.val_succ hkl, ← e]
  omega
theorem nat_over {s : ByteArray} {k : Nat} {a n : Int} (hk : k < s.size) (hn : (s.size : Int) ≤ n) (hn2 : n ≤ 20) (hst : s.data.toList.length = 1 ∨ (s.data.toList.length ≠ 0 ∧ s.data.toList.getD 0 0 ≠ 48)) (h48 : 48 ≤ (s[k].toNat : Int)) (h57 : (!decide ((s[k].toNat : Int) ≤ 57)) = false) (hall : (s.data.toList.take k).all Dg.isDig = true) (ha : a = (Dg.val (s.data.toList.take k) : Int))
    (ho : (18446744073709551615 - ((s[k].toNat : Int) - 48) % 256) / 10 < a) : Dg.wordV s.data.toList n.toNat = 0 ∧ Dg.wordE s.data.toList n.toNat = 5 := by
  obtain ⟨h1, h2⟩ := nat_next hk h48 h57 hall ha
  have h57' : (s[k].toNat : Int) ≤ 57 := by simpa using h57
  have hl := ba_len s
  have h3 : 18446744073709551616 ≤ Dg.val (s.data.toList.take (k + 1)) := by omega
  have h4 := Dg.over_all (l := s.data.toList) (by rw [hl]; exact hk) (by omega) h1 h3
  rw [h4] at h1 h3
  exact Dg.word_over (Dg.wf_mk h1 hst) (by omega) (by omega)
theorem nat_end {s : ByteArray} {k : Nat} {a n : Int} (hk : k < s.size) (hn : (s.size : Int) ≤ n) (hst : s.data.toList.length = 1 ∨ (s.data.toList.length ≠ 0 ∧ s.data.toList.getD 0 0 ≠ 48)) (h48 : 48 ≤ (s[k].toNat : Int)) (h57 : (!decide ((s[k].toNat : Int) ≤ 57)) = false) (hall : (s.data.toList.take k).all Dg.isDig = true) (ha : a = (Dg.val (s.data.toList.take k) : Int))
    (ho : a ≤ (18446744073709551615 - ((s[k].toNat : Int) - 48) % 256) / 10) (he : (s.size : Int) ≤ (k : Int) + 1) : (Dg.wordV s.data.toList n.toNat = Dg.val s.data.toList ∧ Dg.wordE s.data.toList n.toNat = 0) ∧ (Dg.val s.data.toList : Int) = 10 * a + ((s[k].toNat : Int) - 48) % 256 := by
  obtain ⟨h1, h2⟩ := nat_next hk h48 h57 hall ha
  have hl := ba_len s
  have h4 : s.data.toList.take (k + 1) = s.data.toList := List.take_of_length_le (by omega)
  rw [h4] at h1 h2
  exact ⟨Dg.word_ok (Dg.wf_mk h1 hst) (by omega) (by omega), h2⟩
set_option maxRecDepth 100000 in
set_option maxHeartbeats 1000000 in
theorem natural_main (s : ByteArray) (n : Int) (hn2 : n ≤ 20) (w : World) (hs : s.size ≤ maxLen) (h0 : ((s.size : Int) == 0) = false) (h1 : (s.size : Int) ≤ n) (hh : s.size = 1 ∨ (1 < s.size ∧ s.data.toList.getD 0 0 ≠ 48)) :
    Calls Tryd.prog 71 #[.string s, .int .i64 n] w (Word2 s.data.toList n.toNat w) := by
  unfold maxLen at hs
  have hsz : s.data.toList.length = s.size := Array.length_toList
  have Hsz := Lib.hid hsz; clear hsz
  have hpos : 0 < s.size := by
    have : ¬ (s.size : Int) = 0 := by simpa using h0
    omega
  have Hst : Hid (s.data.toList.length = 1 ∨ (s.data.toList.length ≠ 0 ∧ s.data.toList.getD 0 0 ≠ 48)) := by
    rw [Hsz.out]; exact hh.imp id (fun h => ⟨by omega, h.2⟩)
  have hBel : Below w.heap.size w (w.alloc (.cells #[.string s] 9)) := (Below.refl _ _).alloc (Nat.le_refl _) _
  have HB := Lib.hid hBel; clear hBel
  go_enter Tryd.func71, Tryd.ntmps71
  go_wp2
  refine scope_jumps 0 (AtNext s n w) (fun a' _ => s.size - (intOf (a'.tmps.getD 8 undef)).toNat) rfl ?_ ?_
  · rintro a' w' ⟨rfl, k, a, u3, u9, u10, u11, u12, u13, u14, u15, u16, u17, u18, u19, u20, u21, u22, u23, u24, u25, u26, u27, u28, u29, u30, u31, u32, u33, u34, u35, u36, u37, u38, u39, u40, u41, u42, u43, u44, u45, u46, u47, u48, u49, u50, u51, u52, u53, u54, rfl, hk, ha, hmax, hall⟩
    clear hh
    have h0a : 0 ≤ a := by omega
    have Ha := Lib.hid ha; clear ha
    have Hall := Lib.hid hall; clear hall
    go_wp2
    · simp only [Exit.jump]
      go_ret2
      exact word2_of (nat_bad hk (by simp at *; omega)) rfl HB.out
    · simp only [Exit.jump]
      go_ret2
      exact word2_of (nat_over hk h1 hn2 Hst.out ‹_› ‹_› Hall.out Ha.out ‹_›) rfl HB.out
    · go_step3
      have hnx := nat_next hk ‹_› ‹_› Hall.out Ha.out
      have hlt : (k : Int) + 1 < (s.size : Int) := by assumption
      have hle : a ≤ (18446744073709551615 - ((s[k].toNat : Int) - 48) % 256) / 10 := by assumption
      rw [show ((k : Int) + 1) = ((k + 1 : Nat) : Int) from by omega]
      refine ⟨rfl, ⟨rfl, k + 1, _, _, _, _, _, _, _, _, _, _, _, _, _, _, _, _, _, _, _, _, _, _, _, _, _, _, _, _, _, _, _, _, _, _, _, _, _, _, _, _, _, _, _, _, _, _, _, _, rfl, by omega, hnx.2.symm, by omega, hnx.1⟩, ?_⟩
      simp [intOf]
      omega
    · simp only [Exit.jump]
      go_ret2
      have he := nat_end (n := n) hk h1 Hst.out ‹_› ‹_› Hall.out Ha.out ‹_› ‹_›
      exact word2_of he.1 he.2.symm HB.out
    · simp only [Exit.jump]
      go_ret2
      exact word2_of (nat_bad hk (by omega)) rfl HB.out
  · intro hpass
    have Hp := Lib.hid hpass; clear hpass
    rcases hh with hh | ⟨hh, hh0⟩
    · have hb : (decide ((1 : Int) < (s.size : Int))) = false := by simp; omega
      go_wp2
      go_step3
      rename_i hK
      refine hK _ _ (Hp.out _ _ ⟨rfl, 0, 0, _, _, _, _, _, _, _, _, _, _, _, _, _, _, _, _, _, _, _, _, _, _, _, _, _, _, _, _, _, _, _, _, _, _, _, _, _, _, _, _, _, _, _, _, _, _, _, rfl, hpos, by simp [Dg.val], by decide, by simp⟩)
    · have hb : (((s[0] : UInt8).toNat : Int) == 48) = false := by
        rw [beq_eq_false_iff_ne]
        intro e
        apply hh0
        have e2 : s[0].toNat = 48 := by omega
        rw [ba_getElem s 0 hpos] at e2
        rw [List.getD_eq_getElem?_getD, List.getElem?_eq_getElem (by rw [ba_len]; exact hpos)]
        exact UInt8.toNat_inj.mp e2
      go_wp2
      go_step3
      rename_i hK
      refine hK _ _ (Hp.out _ _ ⟨rfl, 0, 0, _, _, _, _, _, _, _, _, _, _, _, _, _, _, _, _, _, _, _, _, _, _, _, _, _, _, _, _, _, _, _, _, _, _, _, _, _, _, _, _, _, _, _, _, _, _, _, rfl, hpos, by simp [Dg.val], by decide, by simp⟩)

set_option maxRecDepth 100000 in
set_option maxHeartbeats 400000 in
/-- What has no digit, too many bytes or a nought ahead is no text of a number. -/
theorem natural_none (s : ByteArray) (n : Int) (w : World) (h0 : ((s.size : Int) == 0) = true) :
    Calls Tryd.prog 71 #[.string s, .int .i64 n] w (Word2 s.data.toList n.toNat w) := by
  have hz : s.size = 0 := by have : (s.size : Int) = 0 := by simpa using h0
                             omega
  have HW : Hid (Dg.wordV s.data.toList n.toNat = 0 ∧ Dg.wordE s.data.toList n.toNat = 3) := Dg.word_bad (Dg.wf_none (by rw [ba_len]; exact hz))
  have Hz := Lib.hid hz; clear hz
  have hBel : Below w.heap.size w (w.alloc (.cells #[.string s] 9)) := (Below.refl _ _).alloc (Nat.le_refl _) _
  have HB := Lib.hid hBel; clear hBel
  go_enter Tryd.func71, Tryd.ntmps71
  go_wp2
  go_step3
  go_wp2
  rw [Exit.noGoto_ret]
  go_ret2
  exact word2_of HW.out rfl HB.out
set_option maxRecDepth 100000 in
set_option maxHeartbeats 400000 in
theorem natural_long (s : ByteArray) (n : Int) (h0n : 0 ≤ n) (w : World) (hs : s.size ≤ maxLen) (h0 : ((s.size : Int) == 0) = false) (h1 : n < (s.size : Int)) :
    Calls Tryd.prog 71 #[.string s, .int .i64 n] w (Word2 s.data.toList n.toNat w) := by
  unfold maxLen at hs
  have HW : Hid (Dg.wordV s.data.toList n.toNat = 0 ∧ Dg.wordE s.data.toList n.toNat = 3) := Dg.word_long (by rw [ba_len]; omega)
  have hBel : Below w.heap.size w (w.alloc (.cells #[.string s] 9)) := (Below.refl _ _).alloc (Nat.le_refl _) _
  have HB := Lib.hid hBel; clear hBel
  go_enter Tryd.func71, Tryd.ntmps71
  go_wp2
  go_step3
  go_wp2
  rw [Exit.noGoto_ret]
  go_ret2
  exact word2_of HW.out rfl HB.out
set_option maxRecDepth 100000 in
set_option maxHeartbeats 400000 in
theorem natural_nought (s : ByteArray) (n : Int) (w : World) (hs : s.size ≤ maxLen) (hlt : 1 < s.size) (h1 : (s.size : Int) ≤ n) (hz : s.data.toList.getD 0 0 = 48) :
    Calls Tryd.prog 71 #[.string s, .int .i64 n] w (Word2 s.data.toList n.toNat w) := by
  unfold maxLen at hs
  have HW : Hid (Dg.wordV s.data.toList n.toNat = 0 ∧ Dg.wordE s.data.toList n.toNat = 3) := Dg.word_bad (Dg.wf_nought (by rw [ba_len]; exact hlt) hz)
  have hpos : 0 < s.size := by omega
  have h0 : ((s.size : Int) == 0) = false := by rw [beq_eq_false_iff_ne]; omega
  have hb : (((s[0] : UInt8).toNat : Int) == 48) = true := by
    rw [beq_iff_eq, ba_getElem s 0 hpos]
    rw [List.getD_eq_getElem?_getD, List.getElem?_eq_getElem (by rw [ba_len]; exact hpos)] at hz
    simp only [Option.getD_some] at hz
    rw [hz]
    rfl
  clear hz
  have hBel : Below w.heap.size w (w.alloc (.cells #[.string s] 9)) := (Below.refl _ _).alloc (Nat.le_refl _) _
  have HB := Lib.hid hBel; clear hBel
  go_enter Tryd.func71, Tryd.ntmps71
  go_wp2
  go_step3
  go_wp2
  rw [Exit.noGoto_ret]
  go_ret2
  exact word2_of HW.out rfl HB.out
/-- ████ natural, at every text. ████ -/
theorem natural_any (s : ByteArray) (n : Int) (h0n : 0 ≤ n) (hn2 : n ≤ 20) (w : World) (hs : s.size ≤ maxLen) :
    Calls Tryd.prog 71 #[.string s, .int .i64 n] w (Word2 s.data.toList n.toNat w) := by
  by_cases h0 : s.size = 0
  · exact natural_none s n w (by rw [beq_iff_eq]; omega)
  · have h0' : ((s.size : Int) == 0) = false := by rw [beq_eq_false_iff_ne]; omega
    by_cases h1 : (s.size : Int) ≤ n
    · by_cases h2 : s.size = 1
      · exact natural_main s n hn2 w hs h0' h1 (Or.inl h2)
      · by_cases h3 : s.data.toList.getD 0 0 = 48
        · exact natural_nought s n w hs (by omega) h1 h3
        · exact natural_main s n hn2 w hs h0' h1 (Or.inr ⟨by omega, h3⟩)
    · exact natural_long s n h0n w hs h0' (by omega)
end Go.Proofs.YthgabbkpjffdnaaDoor.Dt
