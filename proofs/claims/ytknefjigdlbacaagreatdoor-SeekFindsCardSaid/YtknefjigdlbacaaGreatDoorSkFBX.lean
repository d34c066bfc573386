/-
  The walk of SeekFinds. By an AI agent.
-/
import Derived.Test.YtknefjigdlbacaaGreatDoorSkFBW
import Derived.Deep.DeepCutAuto
import Derived.Deep.CutBlock
import Derived.BigQuiet
set_option linter.unusedSimpArgs false
set_option linter.unusedVariables false
namespace Go.Proofs.YtknefjigdlbacaaGreatDoor
open Go.RowKit Go.Maps
open Mm (Mem Blk)
open Sk
/-- SeekFinds' world between two rounds. -/
def Fsw (B p z1 z2 : Nat) (so tb : Obj) (P : Mem → Prop) (w W : World) : Prop := (∃ F M, Ax B W p M F ∧ Aside F W z1 so ∧ Aside F W z2 tb ∧ P M) ∧ Below B w W
abbrev siteO (d t nn kp sd : Int) : Obj := .cells #[.int .u64 d, .int .i64 t, .int .i64 nn, .int .i64 kp, .int .u64 sd] 26 (0, 0)
abbrev tabO (b lg : Int) : Obj := .cells #[.int .u64 b, .int .i64 lg] 24 (0, 0)
def kF (keys : List ByteArray) (r : Nat) : List UInt8 := (keys.getD r ⟨#[]⟩).data.toList
/-- The text of one byte. -/
theorem conv_one (g cc : Nat) (b : UInt8) (w : World) (h : w.cell? ⟨g, 0, none⟩ = some (.int .u8 (b.toNat : Int))) :
    (convert 67 9 (.slice (some ⟨g, 0, none⟩) 1 cc)).run Tryz.prog w = .ok (.string ⟨#[b]⟩) w :=
  run_convert_bytes_back (P := Tryz.prog) w 67 9 5 ⟨g, 0, none⟩ cc [b] Tryz.underlying67 Tryz.underlying5 Tryz.underlying9 (fun j hj => by
    obtain rfl : j = 0 := by simp at hj; omega
    simpa [Addr.add] using h)
def vF (r : Nat) : List UInt8 := [UInt8.ofNat (65 + r)]
/-- What 'first' is, behind the keys from m on. -/
def Fst (keys : List ByteArray) (kk : ByteArray) (m : Nat) (F : Int) : Prop := (F = -1 ∧ ∀ r, m ≤ r → r < keys.length → keys.getD r ⟨#[]⟩ ≠ kk) ∨ ∃ r : Nat, F = (r : Int) ∧ m ≤ r ∧ r < keys.length ∧ keys.getD r ⟨#[]⟩ = kk ∧ ∀ x, m ≤ x → x < r → keys.getD x ⟨#[]⟩ ≠ kk
theorem fst_zero (keys : List ByteArray) (kk : ByteArray) : Fst keys kk keys.length (-1) := .inl ⟨rfl, fun r h1 h2 => by omega⟩
theorem fst_hit {keys : List ByteArray} {kk : ByteArray} {m : Nat} {F : Int} (h : Fst keys kk (m + 1) F) (hm : m < keys.length) (e : keys.getD m ⟨#[]⟩ = kk) : Fst keys kk m (m : Int) := .inr ⟨m, rfl, Nat.le_refl _, hm, e, fun x h1 h2 => by omega⟩
theorem fst_miss {keys : List ByteArray} {kk : ByteArray} {m : Nat} {F : Int} (h : Fst keys kk (m + 1) F) (e : keys.getD m ⟨#[]⟩ ≠ kk) : Fst keys kk m F := by
  rcases h with ⟨rfl, h⟩ | ⟨r, rfl, h1, h2, h3, h4⟩
  · refine .inl ⟨rfl, fun r hr hl => ?_⟩
    by_cases q : r = m
    · subst q; exact e
    · exact h r (by omega) hl
  · refine .inr ⟨r, rfl, by omega, h2, h3, fun x hx hl => ?_⟩
    by_cases q : x = m
    · subst q; exact e
    · exact h4 x (by omega) hl
theorem eqF_same (a0 a1 a2 : Int) (a : ByteArray) : eqF a0 a1 a2 a0 a1 a2 a a = true := by unfold eqF; rw [beq_toListBytes]; simp
theorem kF_inj {keys : List ByteArray} {r : Nat} {kk : ByteArray} (h : kF keys r = kk.data.toList) : keys.getD r ⟨#[]⟩ = kk := by
  unfold kF at h
  have := Array.toList_inj.1 h
  exact ByteArray.ext this
set_option maxRecDepth 100000 in
set_option maxHeartbeats 16000000 in
theorem sfinds_in (d th nn : Nat) (kp : Int) (sd : Nat) (keys : List ByteArray) (A0 : Option Addr) (cap : Nat) (other : ByteArray) (w : World) (hbd : Bd w) (hdr : Dk.right (d : Int) (th : Int) (nn : Int) kp = true) (hdr1 : Dk.right 1 (th : Int) (nn : Int) kp = true) (hnn : 1 ≤ nn ∧ nn ≤ 64 ∧ th < nn) (hL : keys.length ≤ 14) (ho : other.size ≤ 16) (hs : Stx w w.heap.size A0 keys) (hsd : sd < 18446744073709551616)
    (hsz : ∀ r, r < keys.length → (keys.getD r ⟨#[]⟩).size ≤ maxLen) (J : Nat) (hJ : J ≤ keys.length) (hJ1 : ∀ r, r < J → (keys.getD r ⟨#[]⟩).size ≤ 16) (hJ2 : J < keys.length → 16 < (keys.getD J ⟨#[]⟩).size) (lgn G : Nat) (hlg : keys.length ≤ 7 ∧ lgn = 0 ∧ G = 1 ∨ 7 < keys.length ∧ lgn = 1 ∧ G = 2) :
    Calls Tryz.prog 5 #[.agg #[.int .u64 (d : Int), .int .i64 (th : Int), .int .i64 (nn : Int), .int .i64 kp, .int .u64 (sd : Int)], .slice A0 keys.length cap, .string other] w (Gives (.bool true) w) := by
  have hsz : ∀ r, r < keys.length → (keys.getD r ⟨#[]⟩).size ≤ 9223372036854775807 := fun r hr => by have := hsz r hr; unfold maxLen at this; omega
  have HB := Lib.hid (sboxed_below w (d : Int) (th : Int) (nn : Int) kp (sd : Int))
  obtain ⟨c0, c1, c2, c3, c4⟩ := sboxed_cells (w := w) (d := (d : Int)) (t := (th : Int)) (n := (nn : Int)) (k := kp) (s := (sd : Int)) (Below.refl _ _)
  have KR := Lib.hid (show Calls Tryz.prog 19 #[.agg #[.int .u64 (d : Int), .int .i64 (th : Int), .int .i64 (nn : Int), .int .i64 kp, .int .u64 (sd : Int)]] _ (Gives (.bool true) _) from hdr ▸ dright_any (d : Int) (th : Int) (nn : Int) kp (sd : Int) _ (hbd.below HB.out))
  have hgr : Tb.grp (lgn : Int) = G := by rcases hlg with ⟨-, rfl, rfl⟩ | ⟨-, rfl, rfl⟩ <;> decide
  have F0 : Fix J nn G (kF keys) vF (fun _ => th) (lgn : Int) := ⟨by omega, by omega, by omega, fun _ _ => hnn.2.2, fun r hr => by
    have := hJ1 r hr
    unfold kF; rw [Array.length_toList]; exact this, fun r hr => by show 1 ≤ 24; omega, hgr, by omega, by omega, by omega, by omega⟩
  have HF := Lib.hid F0
  have HBD := Lib.hid hbd
  have HS := Lib.hid hs
  have HSD := Lib.hid hsd
  have HNN := Lib.hid hnn
  have HDR := Lib.hid hdr1
  have HJ := Lib.hid (show (∀ r, r < J → (keys.getD r ⟨#[]⟩).size ≤ 16) ∧ (J < keys.length → 16 < (keys.getD J ⟨#[]⟩).size) ∧ ∀ r, r < keys.length → (keys.getD r ⟨#[]⟩).size ≤ 9223372036854775807 from ⟨hJ1, hJ2, hsz⟩)
  obtain ⟨L, hLe⟩ : ∃ L, L = keys.length := ⟨_, rfl⟩
  have HLE := Lib.hid hLe
  rw [← hLe] at hJ hL hlg ⊢
  have HLG := Lib.hid hlg
  have HGR := Lib.hid hgr
  have e1 : ¬ (14 : Int) < (L : Int) := by omega
  have e2 : ¬ (16 : Int) < (other.size : Int) := by omega
  obtain ⟨B, hB⟩ : ∃ B, B = w.heap.size := ⟨_, rfl⟩
  have HBE := Lib.hid hB
  have HLOW := Lib.hid (show 0 < B by rw [hB]; exact hbd.lt)
  clear hdr hdr1 hbd hJ1 hJ2 hsz hgr F0 hs hsd hLe hlg hnn hB
  go_enter Tryz.func5, Tryz.ntmps5
  go_wp2_with fail
  with_reducible refine KR.out.mono ?_
  rintro e w1 ⟨rfl, hb1⟩
  have HB1 := Lib.hid (HB.out.trans (hb1.mono HB.out.size))
  have o1 : w1.heap[w.heap.size]? = some (siteO (d : Int) (th : Int) (nn : Int) kp (sd : Int)) := (hb1.block w.heap.size (by rw [World.size_alloc]; omega)).trans (heap_alloc_new w _)
  have HO1 := Lib.hid o1
  have c2 : w1.cell? ⟨w.heap.size, 2, none⟩ = some (.int .i64 (nn : Int)) := by simp [World.cell?, o1]
  clear c0 c1 c3 c4 KR hb1 o1
  go_upto_if 35 with (fail)
  go_cut [7] (fun v wx => v = .int .i64 (lgn : Int) ∧ w1 = wx)
  case first =>
    rcases HLG.out with ⟨h, rfl, -⟩ | ⟨h, rfl, -⟩
    · have e3 : ¬ (7 : Int) < (L : Int) := by omega
      go_wp2_with fail
      go_meet
      case rel => exact ⟨rfl, rfl⟩
    · have e3 : (7 : Int) < (L : Int) := by omega
      go_wp2_with fail
      go_meet
      case rel => exact ⟨rfl, rfl⟩
  case rest =>
    obtain ⟨rfl, rfl⟩ := hcut
    have HG12 := Lib.hid (show 1 ≤ G ∧ G ≤ 2 by have := HLG.out; omega)
    have KF := Lib.hid (kfield_any 600 nn lgn w1 (HBD.out.below HB1.out) (by omega) (by omega) (by have := HNN.out; omega) (by have := HNN.out; omega) (by have := HLG.out; omega) (by rw [HGR.out]; have := HNN.out; have := HG12.out; omega))
    have KF := Lib.hid (show Calls Tryz.prog 14 #[.int .i64 600, .int .i64 (nn : Int), .int .i64 (lgn : Int)] w1 (Fielded 600 (2 + 2 * nn) (7 + 9 * G) lgn w1) by have := KF.out; rw [HGR.out] at this; exact this)
    go_wp2_with fail
    with_reducible refine KF.out.mono ?_
    rintro e w2 ⟨p, F2, rfl, hp, ha2, hb2⟩
    clear c2 KF
    rw [← HBE.out]
    have HO1 := Lib.hid (show w1.heap[B]? = some (siteO (d : Int) (th : Int) (nn : Int) kp (sd : Int)) by rw [HBE.out]; exact HO1.out)
    have HB1 := Lib.hid (show Below B w w1 by rw [HBE.out]; exact HB1.out)
    have hlt1 : B < w1.heap.size := (Array.getElem?_eq_some_iff.1 HO1.out).1
    obtain ⟨W2, hW2⟩ : ∃ W2, W2 = w2.alloc (.cells #[.int .u64 2, .int .i64 (lgn : Int)] 24) := ⟨_, rfl⟩
    obtain ⟨z2, hz2⟩ : ∃ z2, z2 = w2.heap.size := ⟨_, rfl⟩
    have hbW2 : Below w2.heap.size w2 W2 := by rw [hW2]; exact (Below.refl _ w2).alloc (Nat.le_refl _) _
    have t2 : W2.heap[z2]? = some (tabO 2 (lgn : Int)) := by rw [hW2, hz2]; exact heap_alloc_new w2 _
    have hb12 : Below w1.heap.size w1 W2 := hb2.trans (hbW2.mono hb2.size)
    have s2 : W2.heap[B]? = some (siteO (d : Int) (th : Int) (nn : Int) kp (sd : Int)) := (hb12.block B hlt1).trans HO1.out
    have HA2 := Lib.hid ((ha2.mono (Nat.le_of_lt hlt1)).below hbW2 (Nat.le_refl _))
    have HN2 := Lib.hid (show ¬ F2 B ∧ ¬ F2 z2 ∧ B ≠ z2 ∧ w2.heap.size ≤ z2 from ⟨fun e => by have := (ha2.foot e).1; omega, fun e => by have := (ha2.foot e).2; omega, by have := hb2.size; omega, by omega⟩)
    have HW2 := Lib.hid hW2
    have HZ2 := Lib.hid hz2
    have HBW := Lib.hid (HB1.out.trans (hb12.mono (Nat.le_of_lt hlt1)))
    have HS2 := Lib.hid s2
    have HT2 := Lib.hid t2
    have k0 : W2.cell? ⟨B, 0, none⟩ = some (.int .u64 (d : Int)) := by simp [World.cell?, s2]
    have f0 : W2.frozen? ⟨B, 0, none⟩ = false := by simp [World.frozen?, s2]
    clear hp ha2 hb2 hbW2 hb12 s2 t2 hW2 hz2 hlt1 HO1
    obtain ⟨W3, hW3⟩ : ∃ W3, W3 = W2.setCell ⟨B, 0, none⟩ (.int .u64 1) := ⟨_, rfl⟩
    have hne3 : ∀ j, j ≠ B → W3.heap[j]? = W2.heap[j]? := fun j hj => by rw [hW3]; exact Below.heap_setCell _ _ _ _ hj
    have J0 : Hid (Fsw B p B z2 (siteO 1 (th : Int) (nn : Int) kp (sd : Int)) (tabO 2 (lgn : Int)) (FsM J nn G (kF keys) vF (fun _ => th) (nn : Int) kp sd (lgn : Int) 0 (600 * 0)) w W3) := Lib.hid ⟨⟨F2, _, HA2.out.keep (fun j hj => hne3 j (fun e => HN2.out.1 (e ▸ hj))), ⟨by rw [hW3]; exact heap_setc HS2.out 0 _, HN2.out.1⟩, ⟨(hne3 z2 (Ne.symm HN2.out.2.2.1)).trans HT2.out, HN2.out.2.1⟩, fsm_zero HF.out rfl rfl HNN.out.1⟩, by rw [hW3]; exact HBW.out.setCell (p := ⟨B, 0, none⟩) (Nat.le_refl _) _⟩
    have HW3 := Lib.hid hW3
    clear hne3 hW3
    go_wp2_with (rw [← HW2.out, ← HZ2.out])
    rw [← HW3.out]
    clear k0 f0 HA2 HS2 HT2 HW2 HZ2 HW3 HBW
    go_loopw [10, 11] (fun i _ wr => ∃ k : Nat, k ≤ J ∧ i = .int .i64 k ∧ Hid (Fsw B p B z2 (siteO 1 (th : Int) (nn : Int) kp (sd : Int)) (tabO 2 (lgn : Int)) (FsM J nn G (kF keys) vF (fun _ => th) (nn : Int) kp sd (lgn : Int) k (600 * k)) w wr)) (fun i _ _ => J - (intOf i).toNat)
    case atStart => exact ⟨0, by omega, rfl, J0⟩
    case round =>
      clear J0
      obtain ⟨k, hk, rfl, HI⟩ := hrel
      by_cases hlt : k < J
      · obtain ⟨⟨F, M, hA, hS1, hS2, hP⟩, hBw⟩ := HI.out
        have hkL : k < keys.length := by rw [← HLE.out]; omega
        have hltZ : (k : Int) < (L : Int) := by omega
        have h16 := HJ.out.1 k hlt
        obtain ⟨b0, off, rfl, kca⟩ := HS.out.at hkL
        obtain ⟨key, hkey⟩ : ∃ key, key = keys.getD k ⟨#[]⟩ := ⟨_, rfl⟩
        rw [← hkey, ← HBE.out] at kca
        rw [← hkey] at h16
        have kc := kca wr hBw
        have h16Z : ¬ (16 : Int) < (key.size : Int) := by omega
        have hk14 : (k : Int) < 14 := by omega
        have hwr1 : IntKind.i64.wrap (65 + (k : Int)) = 65 + (k : Int) := by simp [IntKind.wrap, IntKind.bits, IntKind.signed]; omega
        have hwr2 : IntKind.u8.wrap (65 + (k : Int)) = 65 + (k : Int) := by simp [IntKind.wrap, IntKind.bits, IntKind.signed]; omega
        have HKEY := Lib.hid hkey
        have KC := Lib.hid kca
        have HIN := Lib.hid (show _ ∧ _ ∧ _ ∧ _ ∧ _ from ⟨hA, hS1, hS2, hP, hBw⟩)
        have hsc : wr.cell? ⟨B, 0, none⟩ = some (.int .u64 1) ∧ wr.cell? ⟨B, 1, none⟩ = some (.int .i64 (th : Int)) ∧ wr.cell? ⟨B, 2, none⟩ = some (.int .i64 (nn : Int)) ∧ wr.cell? ⟨B, 3, none⟩ = some (.int .i64 kp) ∧ wr.cell? ⟨B, 4, none⟩ = some (.int .u64 (sd : Int)) ∧ wr.cell? ⟨z2, 0, none⟩ = some (.int .u64 2) ∧ wr.cell? ⟨z2, 1, none⟩ = some (.int .i64 (lgn : Int)) ∧ wr.cell? ⟨b0, off + k, none⟩ = some (.string key) := ⟨hS1.cell 0 rfl, hS1.cell 1 rfl, hS1.cell 2 rfl, hS1.cell 3 rfl, hS1.cell 4 rfl, hS2.cell 0 rfl, hS2.cell 1 rfl, kc⟩
        have hsd : wr.drew.cell? ⟨B, 0, none⟩ = some (.int .u64 1) ∧ wr.drew.cell? ⟨B, 1, none⟩ = some (.int .i64 (th : Int)) ∧ wr.drew.cell? ⟨B, 2, none⟩ = some (.int .i64 (nn : Int)) ∧ wr.drew.cell? ⟨B, 3, none⟩ = some (.int .i64 kp) ∧ wr.drew.cell? ⟨B, 4, none⟩ = some (.int .u64 (sd : Int)) ∧ wr.drew.cell? ⟨z2, 0, none⟩ = some (.int .u64 2) ∧ wr.drew.cell? ⟨z2, 1, none⟩ = some (.int .i64 (lgn : Int)) ∧ wr.drew.cell? ⟨b0, off + k, none⟩ = some (.string key) := hsc
        clear hA hS1 hS2 hP hBw hkL hkey HI kca
        go_wp2
        refine wp_region_held_drew (S := fun W => W.cell? ⟨B, 0, none⟩ = some (.int .u64 1) ∧ W.cell? ⟨B, 1, none⟩ = some (.int .i64 (th : Int)) ∧ W.cell? ⟨B, 2, none⟩ = some (.int .i64 (nn : Int)) ∧ W.cell? ⟨B, 3, none⟩ = some (.int .i64 kp) ∧ W.cell? ⟨B, 4, none⟩ = some (.int .u64 (sd : Int)) ∧ W.cell? ⟨z2, 0, none⟩ = some (.int .u64 2) ∧ W.cell? ⟨z2, 1, none⟩ = some (.int .i64 (lgn : Int)) ∧ W.cell? ⟨b0, off + k, none⟩ = some (.string key)) (by kernel_rfl) hsd (fun hS => ?_)
        clear hsc hsd
        refine wpAnyH_take (i := 0) (v := .agg #[.int .u64 1, .int .i64 (th : Int), .int .i64 (nn : Int), .int .i64 kp, .int .u64 (sd : Int)]) rfl (by kernel_rfl) (by kernel_rfl) (by kernel_rfl) (fun _ _ _ h => h) (Or.inl ⟨by kernel_rfl, fun w hS => by obtain ⟨s1, s2, s3, s4, s5, s6, s7, s8⟩ := hS; go_simp⟩) hS ?_
        refine wpAnyH_take (i := 1) (v := .agg #[.int .u64 2, .int .i64 (lgn : Int)]) rfl (by kernel_rfl) (by kernel_rfl) (by kernel_rfl) (fun _ _ _ h => h) (Or.inl ⟨by kernel_rfl, fun w hS => by obtain ⟨s1, s2, s3, s4, s5, s6, s7, s8⟩ := hS; go_simp⟩) hS ?_
        refine wpAnyH_take (i := 2) (v := .slice (some ⟨b0, off, none⟩) L cap) rfl (by kernel_rfl) (by kernel_rfl) (by kernel_rfl) (fun _ _ _ h => h) (Or.inl ⟨by kernel_rfl, fun w hS => by kernel_rfl⟩) hS ?_
        refine wpAnyH_take (i := 3) (v := .int .i64 (k : Int)) rfl (by kernel_rfl) (by kernel_rfl) (by kernel_rfl) (fun _ _ _ h => h) (Or.inl ⟨by kernel_rfl, fun w hS => by kernel_rfl⟩) hS ?_
        refine wpAnyH_take (i := 4) (v := .pointer (some ⟨b0, off + k, none⟩)) rfl (by kernel_rfl) (by kernel_rfl) (by kernel_rfl) (fun _ _ _ h => h) (Or.inl ⟨by kernel_rfl, fun w hS => by go_simp⟩) hS ?_
        refine wpAnyH_take (i := 5) (v := .string key) rfl (by kernel_rfl) (by kernel_rfl) (by kernel_rfl) (fun _ _ _ h => h) (Or.inl ⟨by kernel_rfl, fun w hS => by obtain ⟨s1, s2, s3, s4, s5, s6, s7, s8⟩ := hS; go_simp⟩) hS ?_
        refine wpAnyH_take (i := 6) (v := .pointer (some ⟨p, 0, none⟩)) rfl (by kernel_rfl) (by kernel_rfl) (by kernel_rfl) (fun _ _ _ h => h) (Or.inl ⟨by kernel_rfl, fun w hS => by kernel_rfl⟩) hS ?_
        refine wpAnyH_take (i := 7) (v := .slice (some ⟨b0, off, none⟩) L cap) rfl (by kernel_rfl) (by kernel_rfl) (by kernel_rfl) (fun _ _ _ h => h) (Or.inl ⟨by kernel_rfl, fun w hS => by kernel_rfl⟩) hS ?_
        refine wpAnyH_take (i := 8) (v := .int .i64 (k : Int)) rfl (by kernel_rfl) (by kernel_rfl) (by kernel_rfl) (fun _ _ _ h => h) (Or.inl ⟨by kernel_rfl, fun w hS => by kernel_rfl⟩) hS ?_
        refine wpAnyH_take (i := 9) (v := .pointer (some ⟨b0, off + k, none⟩)) rfl (by kernel_rfl) (by kernel_rfl) (by kernel_rfl) (fun _ _ _ h => h) (Or.inl ⟨by kernel_rfl, fun w hS => by go_simp⟩) hS ?_
        refine wpAnyH_take (i := 10) (v := .string key) rfl (by kernel_rfl) (by kernel_rfl) (by kernel_rfl) (fun _ _ _ h => h) (Or.inl ⟨by kernel_rfl, fun w hS => by obtain ⟨s1, s2, s3, s4, s5, s6, s7, s8⟩ := hS; go_simp⟩) hS ?_
        refine wpAnyH_take (i := 11) (v := .int .i64 (k : Int)) rfl (by kernel_rfl) (by kernel_rfl) (by kernel_rfl) (fun _ _ _ h => h) (Or.inl ⟨by kernel_rfl, fun w hS => by kernel_rfl⟩) hS ?_
        refine wpAnyH_take (i := 12) (v := .int .i64 (65 + (k : Int))) rfl (by kernel_rfl) (by kernel_rfl) (by kernel_rfl) (fun _ _ _ h => h) (Or.inl ⟨by kernel_rfl, fun w hS => by go_simp⟩) hS ?_
        refine wpAnyH_take (i := 13) (v := .int .u8 ((65 + k : Nat) : Int)) rfl (by kernel_rfl) (by kernel_rfl) (by kernel_rfl) (fun _ _ _ h => h) (Or.inl ⟨by kernel_rfl, fun w hS => by go_simp⟩) hS ?_
        refine wpAnyH_ready (rs := [14]) (by kernel_rfl) (by simp) ?_
        refine AllReadyH.cons rfl (fun K hK => ?_) AllReadyH.nil
        go_simp
        obtain ⟨X, hX⟩ : ∃ X, X = (wr.alloc (.cells #[.int .u8 (65 + (k : Int))] 5)).drew := ⟨_, rfl⟩
        obtain ⟨g, hg⟩ : ∃ g, g = wr.heap.size := ⟨_, rfl⟩
        have hbX : Below wr.heap.size wr X := by rw [hX]; exact ((Below.refl _ wr).alloc (Nat.le_refl _) _).drew
        have hcX : X.cell? ⟨g, 0, none⟩ = some (.int .u8 (65 + (k : Int))) := by
          have : X.heap[g]? = some (.cells #[.int .u8 (65 + (k : Int))] 5 (0, 0)) := by rw [hX, hg]; exact heap_alloc_new wr _
          simp [World.cell?, this]
        obtain ⟨hA, hS1, hS2, hP, hBw⟩ := HIN.out
        have hA1 := hA.below hbX (Nat.le_refl _)
        have hS11 := hS1.below hbX
        have hS21 := hS2.below hbX
        have hBX : Below B w X := hBw.trans (hbX.mono (by rw [HBE.out]; exact hBw.size))
        have kcX := KC.out X hBX
        have hval : ((UInt8.ofNat (65 + k)).toNat : Int) = 65 + (k : Int) := by simp; omega
        have hconv := conv_one g 1 (UInt8.ofNat (65 + k)) X (by rw [hval]; exact hcX)
        obtain ⟨val, hvl⟩ : ∃ val : ByteArray, val = ⟨#[UInt8.ofNat (65 + k)]⟩ := ⟨_, rfl⟩
        rw [← hvl] at hconv
        have HVL := Lib.hid (show val.data.toList = vF k by rw [hvl]; rfl)
        have HIN := Lib.hid (show _ ∧ _ ∧ _ ∧ _ ∧ _ from ⟨hA1, hS11, hS21, hP, hBX⟩)
        have hsX : X.cell? ⟨B, 0, none⟩ = some (.int .u64 1) ∧ X.cell? ⟨B, 1, none⟩ = some (.int .i64 (th : Int)) ∧ X.cell? ⟨B, 2, none⟩ = some (.int .i64 (nn : Int)) ∧ X.cell? ⟨B, 3, none⟩ = some (.int .i64 kp) ∧ X.cell? ⟨B, 4, none⟩ = some (.int .u64 (sd : Int)) ∧ X.cell? ⟨z2, 0, none⟩ = some (.int .u64 2) ∧ X.cell? ⟨z2, 1, none⟩ = some (.int .i64 (lgn : Int)) ∧ X.cell? ⟨b0, off + k, none⟩ = some (.string key) := ⟨hS11.cell 0 rfl, hS11.cell 1 rfl, hS11.cell 2 rfl, hS11.cell 3 rfl, hS11.cell 4 rfl, hS21.cell 0 rfl, hS21.cell 1 rfl, kcX⟩
        have HX := Lib.hid hX
        have HG := Lib.hid hg
        clear hvl hbX hcX hA hS1 hS2 hP hBw hA1 hS11 hS21 hBX hval hX hg hS
        rw [← HX.out]
        refine hK.out _ _ hsX (fun hS => ?_)
        clear hK K hsX
        refine wpAnyH_ready (rs := [15]) (by kernel_rfl) (by simp) ?_
        refine AllReadyH.cons rfl (fun K hK => ?_) AllReadyH.nil
        rw [← HG.out]
        go_simp
        obtain ⟨hA, hS1, hS2, hP, hBw⟩ := HIN.out
        have hsX : X.cell? ⟨B, 0, none⟩ = some (.int .u64 1) ∧ X.cell? ⟨B, 1, none⟩ = some (.int .i64 (th : Int)) ∧ X.cell? ⟨B, 2, none⟩ = some (.int .i64 (nn : Int)) ∧ X.cell? ⟨B, 3, none⟩ = some (.int .i64 kp) ∧ X.cell? ⟨B, 4, none⟩ = some (.int .u64 (sd : Int)) ∧ X.cell? ⟨z2, 0, none⟩ = some (.int .u64 2) ∧ X.cell? ⟨z2, 1, none⟩ = some (.int .i64 (lgn : Int)) ∧ X.cell? ⟨b0, off + k, none⟩ = some (.string key) := ⟨hS1.cell 0 rfl, hS1.cell 1 rfl, hS1.cell 2 rfl, hS1.cell 3 rfl, hS1.cell 4 rfl, hS2.cell 0 rfl, hS2.cell 1 rfl, kcX⟩
        refine hK.out _ _ hsX (fun hS => ?_)
        clear hK K hsX hconv
        have hBX : B ≤ X.heap.size := by rw [HBE.out]; exact hBw.size
        have hk16 : key.data.toList.length ≤ 16 := by rw [Array.length_toList]; exact h16
        have hl := hP.last
        have hbx := bx_bd hk16 (show (vF k).length ≤ 24 by show 1 ≤ 24; omega)
        have KBX := kboxed_any key val hA HLOW.out hBX hk16 (by rw [HVL.out]; show 1 ≤ 24; omega) (by
          rw [HVL.out]
          have h1 := hP.room
          have h2 := hP.used
          have h3 := hbx.2
          show (Kr.bx key.data.toList (vF k)).length ≤ M.room - Mm.used M.L
          omega) (by omega)
        have eF : kF keys k = key.data.toList := by unfold kF; rw [HKEY.out]
        have HEF := Lib.hid eF
        rw [HVL.out, ← eF] at KBX
        have KBX := Lib.hid KBX
        have HGM := Lib.hid hA.good
        have HL1 := Lib.hid (show M.last + 1 = 3 + k by omega)
        have HLB := Lib.hid (show B ≤ X.heap.size ∧ ∀ k, F k → B ≤ k from ⟨hBX, fun k hk => (hA.foot hk).1⟩)
        clear hA hS1 hS2 hP hBw kcX hk16 hl hbx hBX eF
        refine wpAnyH_ready (rs := [16]) (by kernel_rfl) (by simp) ?_
        refine AllReadyH.cons rfl (fun K hK => ?_) AllReadyH.nil
        go_simp
        go_at_call 15
        refine KBX.out.mono ?_
        rintro e w5 ⟨rfl, F5, hA5, ht5⟩
        rw [HL1.out]
        obtain ⟨hA, hS1, hS2, hP, hBw⟩ := HIN.out
        have hS15 := hS1.tn ht5
        have hS25 := hS2.tn ht5
        have hB5 : Below B w w5 := hBw.trans (ht5.below HLB.out.2 HLB.out.1)
        have hs5 : w5.cell? ⟨B, 0, none⟩ = some (.int .u64 1) ∧ w5.cell? ⟨B, 1, none⟩ = some (.int .i64 (th : Int)) ∧ w5.cell? ⟨B, 2, none⟩ = some (.int .i64 (nn : Int)) ∧ w5.cell? ⟨B, 3, none⟩ = some (.int .i64 kp) ∧ w5.cell? ⟨B, 4, none⟩ = some (.int .u64 (sd : Int)) ∧ w5.cell? ⟨z2, 0, none⟩ = some (.int .u64 2) ∧ w5.cell? ⟨z2, 1, none⟩ = some (.int .i64 (lgn : Int)) ∧ w5.cell? ⟨b0, off + k, none⟩ = some (.string key) := ⟨hS15.cell 0 rfl, hS15.cell 1 rfl, hS15.cell 2 rfl, hS15.cell 3 rfl, hS15.cell 4 rfl, hS25.cell 0 rfl, hS25.cell 1 rfl, KC.out _ hB5⟩
        have KN := Lib.hid (show Calls Tryz.prog 7 #[.agg #[.int .u64 1, .int .i64 (th : Int), .int .i64 (nn : Int), .int .i64 kp, .int .u64 (sd : Int)], .agg #[.int .u64 2, .int .i64 (lgn : Int)], .string key, .int .u64 ((3 + k : Nat) : Int), .bool false] w5 (Knew (cK (fun _ => th) (nn : Int) kp sd (lgn : Int) (kF keys) k) false w5) by
          have := knew_yes (w := w5) 1 (th : Int) (nn : Int) kp sd 2 (lgn : Int) key (3 + k) false (HBD.out.below (by rw [← HBE.out]; exact hB5)) th rfl HDR.out (by rw [HGR.out]; show Tb.right 2 G = true; unfold Tb.right; have := HG12.out; simp; omega) h16 HSD.out
          rw [show cK (fun _ => th) (nn : Int) kp sd (lgn : Int) (kF keys) k = seekOf 1 th (nn : Int) kp sd 2 (lgn : Int) key (3 + k) by unfold cK seekOf; rw [HEF.out]]
          exact this)
        have HIN := Lib.hid (show _ ∧ _ ∧ _ ∧ _ ∧ _ from ⟨hA5, hS15, hS25, hP, hB5⟩)
        clear hA hS1 hS2 hP hBw hA5 ht5 hS15 hS25 hB5 KBX HLB HL1 hS
        refine hK.out _ _ hs5 (fun hS => ?_)
        clear hK K hs5
        refine wpAnyH_ready (rs := [17]) (by kernel_rfl) (by simp) ?_
        refine AllReadyH.cons rfl (fun K hK => ?_) AllReadyH.nil
        go_simp
        go_at_call 7
        refine KN.out.mono ?_
        rintro e w6 ⟨q, rfl, hq, hk6, hb6⟩
        obtain ⟨hA, hS1, hS2, hP, hBw⟩ := HIN.out
        have hS16 := hS1.below hb6
        have hS26 := hS2.below hb6
        have hA6 := hA.below hb6 (Nat.le_refl _)
        have hB5 : B ≤ w5.heap.size := by rw [HBE.out]; exact hBw.size
        have hB6 : Below B w w6 := hBw.trans (hb6.mono hB5)
        have hs6 : w6.cell? ⟨B, 0, none⟩ = some (.int .u64 1) ∧ w6.cell? ⟨B, 1, none⟩ = some (.int .i64 (th : Int)) ∧ w6.cell? ⟨B, 2, none⟩ = some (.int .i64 (nn : Int)) ∧ w6.cell? ⟨B, 3, none⟩ = some (.int .i64 kp) ∧ w6.cell? ⟨B, 4, none⟩ = some (.int .u64 (sd : Int)) ∧ w6.cell? ⟨z2, 0, none⟩ = some (.int .u64 2) ∧ w6.cell? ⟨z2, 1, none⟩ = some (.int .i64 (lgn : Int)) ∧ w6.cell? ⟨b0, off + k, none⟩ = some (.string key) := ⟨hS16.cell 0 rfl, hS16.cell 1 rfl, hS16.cell 2 rfl, hS16.cell 3 rfl, hS16.cell 4 rfl, hS26.cell 0 rfl, hS26.cell 1 rfl, KC.out _ hB6⟩
        have HQ := Lib.hid (show B ≤ q ∧ ¬ F5 q ∧ B ≠ q ∧ z2 ≠ q from ⟨Nat.le_trans hB5 hq, fun e => by have := (hA.foot e).2; omega, by have := hS1.lt; omega, by have := hS2.lt; omega⟩)
        obtain ⟨N, hN, hR, hP'⟩ := fsm_lay HF.out hlt hP HGM.out (by omega)
        have KA := Lib.hid (alone_runs (sit_K HF.out hlt HDR.out) hR hA6 (ks_start hk6 HQ.out.1) (fun j e => by rw [show j = q from e]; exact HQ.out.2.1) (HBD.out.below (by rw [← HBE.out]; exact hB6)) HLOW.out (Nat.le_trans hB5 hb6.size) (by omega) 100000 (by omega))
        have HIN := Lib.hid (show _ ∧ _ ∧ _ ∧ _ from ⟨hS16, hS26, hB6, hP'⟩)
        have HFT := Lib.hid (show (∀ j, Or2 F5 (fun j => j = q) j → B ≤ j) ∧ B ≤ w6.heap.size from ⟨fun j hj => hj.elim (fun e => (hA.foot e).1) (fun e => by rw [show j = q from e]; exact HQ.out.1), Nat.le_trans hB5 hb6.size⟩)
        clear hA hS1 hS2 hP hBw hS16 hS26 hA6 hB5 hB6 hN hR hP' hq hk6 hb6 KN hS
        refine hK.out _ _ hs6 (fun hS => ?_)
        clear hK K hs6
        refine wpAnyH_take (i := 18) (v := .pointer (some ⟨q, 0, none⟩)) rfl (by kernel_rfl) (by kernel_rfl) (by kernel_rfl) (fun _ _ _ h => h) (Or.inl ⟨by kernel_rfl, fun w hS => by kernel_rfl⟩) hS ?_
        refine wpAnyH_done (by kernel_rfl) ?_ _
        clear hS
        go_wp2_with fail
        with_reducible refine KA.out.mono ?_
        rintro e w7 ⟨rfl, F7, H7, hA7, hK7, hbd7, hap7, ht7⟩
        obtain ⟨hS1, hS2, hBw, hP⟩ := HIN.out
        have J7 : Hid (Fsw B p B z2 (siteO 1 (th : Int) (nn : Int) kp (sd : Int)) (tabO 2 (lgn : Int)) (FsM J nn G (kF keys) vF (fun _ => th) (nn : Int) kp sd (lgn : Int) (k + 1) (600 * (k + 1))) w w7) := Lib.hid ⟨⟨F7, _, hA7, hS1.alone (H := fun j => j = q) HQ.out.2.2.1 ht7, hS2.alone (H := fun j => j = q) HQ.out.2.2.2 ht7, hP⟩, hBw.trans (ht7.below HFT.out.1 HFT.out.2)⟩
        clear hA7 hK7 hbd7 hap7 ht7 hS1 hS2 hBw hP HIN HFT KA HQ
        go_wp2
        go_roundw
        case rel => exact ⟨k + 1, by omega, by go_num, J7⟩
        case measure => simp [intOf]; omega
      · obtain rfl : k = J := by omega
        by_cases hJL : k < L
        · obtain ⟨-, hBw⟩ := HI.out
          have hkL : k < keys.length := by rw [← HLE.out]; exact hJL
          have hltZ : (k : Int) < (L : Int) := by omega
          have h16 := HJ.out.2.1 hkL
          have h63 := HJ.out.2.2 k hkL
          obtain ⟨b0, off, rfl, kca⟩ := HS.out.at hkL
          obtain ⟨key, hkey⟩ : ∃ key, key = keys.getD k ⟨#[]⟩ := ⟨_, rfl⟩
          rw [← hkey, ← HBE.out] at kca
          rw [← hkey] at h16 h63
          have kc := kca wr hBw
          have h16Z : (16 : Int) < (key.size : Int) := by omega
          have hBwe : Below w.heap.size w wr := by rw [← HBE.out]; exact hBw
          have KA := Lib.hid (awake_any wr (HBD.out.below hBwe))
          have HBW := Lib.hid hBwe
          clear hBw hBwe hkL hkey HI kca
          go_wp2_with fail
          with_reducible refine KA.out.mono ?_
          rintro e w9 ⟨rfl, hb9⟩
          have BF := Lib.hid (HBW.out.trans (hb9.mono HBW.out.size))
          clear hb9
          go_wp2
          go_ret
          exact ⟨rfl, BF.out⟩
        · obtain rfl : L = k := by omega
          have J1 : Hid (Fsw B p B z2 (siteO 1 (th : Int) (nn : Int) kp (sd : Int)) (tabO 2 (lgn : Int)) (FsM L nn G (kF keys) vF (fun _ => th) (nn : Int) kp sd (lgn : Int) L (600 * L + 600 * 0)) w wr) := HI
          have hltZ : ¬ (L : Int) < (L : Int) := by omega
          clear HI hJL hlt hk
          go_wp2
          clear hltZ
          go_loopw [12, 13, 14, 15, 16, 17, 18] (fun i _ _ _ _ _ _ wr => ∃ j : Nat, j ≤ L + 1 ∧ i = .int .i64 j ∧ Hid (Fsw B p B z2 (siteO 1 (th : Int) (nn : Int) kp (sd : Int)) (tabO 2 (lgn : Int)) (FsM L nn G (kF keys) vF (fun _ => th) (nn : Int) kp sd (lgn : Int) L (600 * L + 600 * j)) w wr)) (fun i _ _ _ _ _ _ _ => L + 1 - (intOf i).toNat)
          case atStart => exact ⟨0, by omega, rfl, J1⟩
          case round =>
            clear J1
            obtain ⟨j, hj, rfl, HI⟩ := hrel
            by_cases hle : j ≤ L
            · have hleZ : (j : Int) ≤ (L : Int) := by omega
              obtain ⟨kk, hkk⟩ : ∃ kk, kk = if j < L then keys.getD j ⟨#[]⟩ else other := ⟨_, rfl⟩
              have HKK := Lib.hid hkk
              clear hkk
              go_upto_if 89 with (fail)
              go_cut [13] (fun v wx => v = .string kk ∧ wr = wx)
              case first =>
                by_cases hjl : j < L
                · have hjlZ : (j : Int) < (L : Int) := by omega
                  have hkL : j < keys.length := by rw [← HLE.out]; exact hjl
                  obtain ⟨b0, off, rfl, kca⟩ := HS.out.at hkL
                  rw [← HBE.out] at kca
                  have kc := kca wr HI.out.2
                  rw [show keys.getD j ⟨#[]⟩ = kk by rw [HKK.out, if_pos hjl]] at kc
                  clear kca
                  go_wp2_with fail
                  go_meet
                  case rel => exact ⟨rfl, rfl⟩
                · have hjlZ : ¬ (j : Int) < (L : Int) := by omega
                  rw [if_neg hjl] at HKK
                  obtain ⟨rfl⟩ := HKK
                  go_wp2_with fail
                  go_meet
                  case rel => exact ⟨rfl, rfl⟩
              case rest =>
                obtain ⟨rfl, rfl⟩ := hcut
                have J2 : Hid (Fst keys kk L (-1)) := Lib.hid (by rw [HLE.out]; exact fst_zero keys kk)
                go_wp2
                go_loopw [14, 15] (fun f i wx => ∃ m : Nat, m ≤ L ∧ i = .int .i64 ((m : Int) - 1) ∧ (∃ Fi : Int, f = .int .i64 Fi ∧ Hid (Fst keys kk m Fi)) ∧ wr = wx) (fun _ i _ => (intOf i + 1).toNat)
                case atStart => exact ⟨L, Nat.le_refl _, by go_num, ⟨-1, rfl, J2⟩, rfl⟩
                case round =>
                  clear J2
                  obtain ⟨m, hm, rfl, ⟨Fi, rfl, HFi⟩, rfl⟩ := hrel
                  cases m with
                  | succ m =>
                    have hmL : m < keys.length := by rw [← HLE.out]; omega
                    have hmZ : (0 : Int) ≤ ((m + 1 : Nat) : Int) - 1 := by omega
                    have hmZ2 : ((m + 1 : Nat) : Int) - 1 < (L : Int) := by omega
                    have hms : ((m + 1 : Nat) : Int) - 1 = (m : Int) := by omega
                    obtain ⟨b0, off, rfl, kca⟩ := HS.out.at hmL
                    rw [← HBE.out] at kca
                    have kc := kca wr HI.out.2
                    obtain ⟨key, hkey⟩ : ∃ key, key = keys.getD m ⟨#[]⟩ := ⟨_, rfl⟩
                    rw [← hkey] at kc
                    rw [hms] at hmZ hmZ2 ⊢
                    by_cases hq : key = kk
                    · have HN := Lib.hid (fst_hit HFi.out hmL (by rw [← hkey]; exact hq))
                      subst hq
                      clear hkey kca hms HFi
                      go_wp2
                      refine ⟨⟨m, by omega, by go_num, ⟨(m : Int), rfl, HN⟩, trivial⟩, by simp [intOf]⟩
                    · have HN := Lib.hid (fst_miss HFi.out (by rw [← hkey]; exact hq))
                      have hqb : (key.toList == kk.toList) = false := by
                        rw [ByteArray.toList_eq, ByteArray.toList_eq]
                        simp only [beq_eq_false_iff_ne, ne_eq]
                        exact fun e => hq (ByteArray.ext (Array.toList_inj.1 e))
                      clear hkey kca hms HFi hq
                      go_wp2
                      refine ⟨⟨m, by omega, by go_num, ⟨Fi, rfl, HN⟩, trivial⟩, by simp [intOf]⟩
                  | zero =>
                    have hmZ : ¬ (0 : Int) ≤ ((0 : Nat) : Int) - 1 := by omega
                    obtain ⟨⟨F, M, hA, hS1, hS2, hP⟩, hBw⟩ := HI.out
                    have hs0 := hS1.cell 0 rfl
                    have hs1 := hS1.cell 1 rfl
                    have hs2 := hS1.cell 2 rfl
                    have hs3 := hS1.cell 3 rfl
                    have hs4 := hS1.cell 4 rfl
                    have ht0 := hS2.cell 0 rfl
                    have ht1 := hS2.cell 1 rfl
                    have HIN := Lib.hid (show _ ∧ _ ∧ _ ∧ _ ∧ _ from ⟨hA, hS1, hS2, hP, hBw⟩)
                    clear hA hS1 hS2 hP hBw HI
                    have h16 : kk.size ≤ 16 := by
                      rw [HKK.out]
                      split
                      · rename_i hjl
                        exact HJ.out.1 j hjl
                      · exact ho
                    obtain ⟨chk, hchk⟩ : ∃ chk : Bool, chk = ((j : Int) % 2 == 0) := ⟨_, rfl⟩
                    have HCHK := Lib.hid hchk
                    clear hchk
                    have hBwe : Below w.heap.size w wr := by rw [← HBE.out]; exact HIN.out.2.2.2.2
                    have KN := Lib.hid (show Calls Tryz.prog 7 #[.agg #[.int .u64 1, .int .i64 (th : Int), .int .i64 (nn : Int), .int .i64 kp, .int .u64 (sd : Int)], .agg #[.int .u64 2, .int .i64 (lgn : Int)], .string kk, .int .u64 0, .bool chk] wr (Knew (cL th (nn : Int) kp sd (lgn : Int) kk.data.toList) chk wr) from
                      knew_yes (w := wr) 1 (th : Int) (nn : Int) kp sd 2 (lgn : Int) kk 0 chk (HBD.out.below hBwe) th rfl HDR.out (by rw [HGR.out]; show Tb.right 2 G = true; unfold Tb.right; have := HG12.out; simp; omega) h16 HSD.out)
                    clear hBwe h16
                    go_wp2_with fail
                    rw [← HCHK.out]
                    with_reducible refine KN.out.mono ?_
                    rintro e w6 ⟨q, rfl, hq, hk6, hb6⟩
                    obtain ⟨hA, hS1, hS2, hP, hBw⟩ := HIN.out
                    have hB5 : B ≤ wr.heap.size := by rw [HBE.out]; exact hBw.size
                    have hA6 := hA.below hb6 (Nat.le_refl _)
                    have hB6 : Below B w w6 := hBw.trans (hb6.mono hB5)
                    have HQ := Lib.hid (show B ≤ q ∧ ¬ F q ∧ B ≠ q ∧ z2 ≠ q from ⟨Nat.le_trans hB5 hq, fun e => by have := (hA.foot e).2; omega, by have := hS1.lt; omega, by have := hS2.lt; omega⟩)
                    obtain ⟨N, hN, hR, hP', hyes, hno⟩ := fsm_look HF.out hP (by omega) HNN.out.2.2 kk.data.toList chk
                    have KA := Lib.hid (alone_runs (sit_L HF.out HNN.out.2.2 HDR.out) hR hA6 (ks_start hk6 HQ.out.1) (fun j e => by rw [show j = q from e]; exact HQ.out.2.1) (HBD.out.below (by rw [← HBE.out]; exact hB6)) HLOW.out (Nat.le_trans hB5 hb6.size) (by omega) 100000 (by omega))
                    have HIN2 := Lib.hid (show _ ∧ _ ∧ _ ∧ _ from ⟨hS1.below hb6, hS2.below hb6, hB6, hP'⟩)
                    have HFT := Lib.hid (show (∀ j, Or2 F (fun j => j = q) j → B ≤ j) ∧ B ≤ w6.heap.size from ⟨fun j hj => hj.elim (fun e => (hA.foot e).1) (fun e => by rw [show j = q from e]; exact HQ.out.1), Nat.le_trans hB5 hb6.size⟩)
                    have HWF := Lib.hid (show _ ∧ _ from ⟨hR.1.wf N (Nat.le_refl _), hR.1.fin⟩)
                    have HYN := Lib.hid (show _ ∧ _ from ⟨hyes, hno⟩)
                    obtain ⟨x, hx⟩ : ∃ x, x = (cr (cL th (nn : Int) kp sd (lgn : Int) kk.data.toList) (Sk.start (cL th (nn : Int) kp sd (lgn : Int) kk.data.toList) chk, M) N) := ⟨_, rfl⟩
                    rw [← hx] at KA HIN2 HYN
                    rw [← hx] at HWF
                    clear hA hS1 hS2 hP hBw hA6 hB5 hB6 hN hR hP' hyes hno hq hk6 hb6 KN hx HCHK HIN
                    go_wp2_with fail
                    with_reducible refine KA.out.mono ?_
                    rintro e w7 ⟨rfl, F7, H7, hA7, hK7, hbd7, hap7, ht7⟩
                    obtain ⟨hS1, hS2, hBw, hP⟩ := HIN2.out
                    have hB7 : Below B w w7 := hBw.trans (ht7.below HFT.out.1 HFT.out.2)
                    have HIN3 := Lib.hid (show _ ∧ _ ∧ _ ∧ _ ∧ _ from ⟨hA7, hS1.alone (H := fun j => j = q) HQ.out.2.2.1 ht7, hS2.alone (H := fun j => j = q) HQ.out.2.2.2 ht7, hP, hB7⟩)
                    have KR := skres_any hK7 HWF.out.1
                    rw [show Sk.more x.1 = false by unfold Sk.more; rw [HWF.out.2]; rfl] at KR
                    have KR := Lib.hid KR
                    clear hA7 hK7 hbd7 hap7 ht7 hS1 hS2 hBw hP hB7 HIN2 HFT KA HQ HWF
                    rcases HFi.out with ⟨rfl, hf⟩ | ⟨r, rfl, hf0, hfL, hfk, hfm⟩
                    · have ef := HYN.out.2 (fun k hk e => hf k (Nat.zero_le _) (by rw [← HLE.out]; exact hk) (kF_inj e))
                      rw [ef] at KR
                      have KR := Lib.hid (show Calls Tryz.prog 11 #[.pointer (some ⟨q, 0, none⟩)] w7 (Gives (.tuple #[.agg #[.int .i64 1, .int .i64 0, .int .u64 0, .string ⟨#[]⟩], .bool true]) w7) from KR.out)
                      clear ef hf HYN HFi
                      go_wp2_with fail
                      with_reducible refine KR.out.mono ?_
                      rintro e w8 ⟨rfl, hb8⟩
                      obtain ⟨W8, hW8⟩ : ∃ W8, W8 = w8.alloc (.cells #[.int .i64 1, .int .i64 0, .int .u64 0, .string ⟨#[]⟩] 40) := ⟨_, rfl⟩
                      obtain ⟨y, hy⟩ : ∃ y, y = w8.heap.size := ⟨_, rfl⟩
                      have hbW : Below w8.heap.size w8 W8 := by rw [hW8]; exact (Below.refl _ w8).alloc (Nat.le_refl _) _
                      have o8 : W8.heap[y]? = some (.cells #[.int .i64 1, .int .i64 0, .int .u64 0, .string ⟨#[]⟩] 40 (0, 0)) := by rw [hW8, hy]; exact heap_alloc_new w8 _
                      have d0 : W8.cell? ⟨y, 0, none⟩ = some (.int .i64 1) := by simp [World.cell?, o8]
                      have d1 : W8.cell? ⟨y, 1, none⟩ = some (.int .i64 0) := by simp [World.cell?, o8]
                      have d2 : W8.cell? ⟨y, 2, none⟩ = some (.int .u64 0) := by simp [World.cell?, o8]
                      have d3 : W8.cell? ⟨y, 3, none⟩ = some (.string ⟨#[]⟩) := by simp [World.cell?, o8]
                      have HB8 := Lib.hid (show Below w7.heap.size w7 W8 from hb8.trans (hbW.mono hb8.size))
                      have HW8 := Lib.hid hW8
                      have HY := Lib.hid hy
                      have q2 := ne_fd 1 0 0 1 0 0 ⟨#[]⟩ ⟨#[]⟩
                      rw [eqF_same] at q2
                      clear hW8 hy hbW o8 hb8 KR
                      go_wp2_with (rw [← HW8.out, ← HY.out])
                      obtain ⟨hA, hS1, hS2, hP, hBw⟩ := HIN3.out
                      have J8 : Hid (Fsw B p B z2 (siteO 1 (th : Int) (nn : Int) kp (sd : Int)) (tabO 2 (lgn : Int)) (FsM L nn G (kF keys) vF (fun _ => th) (nn : Int) kp sd (lgn : Int) L (600 * L + 600 * (j + 1))) w W8) := Lib.hid ⟨⟨F7, _, hA.below HB8.out (Nat.le_refl _), hS1.below HB8.out, hS2.below HB8.out, hP⟩, hBw.trans (HB8.out.mono (by rw [HBE.out]; exact hBw.size))⟩
                      exact ⟨⟨j + 1, by omega, by go_num, J8⟩, by simp [intOf]; omega⟩
                    · obtain ⟨fy, fw, ef⟩ := HYN.out.1 r (by rw [HLE.out]; exact hfL) (fun x hx e => hfm x (Nat.zero_le _) hx (kF_inj (by rw [e, ← hfk]; rfl))) (by rw [← hfk]; rfl)
                      rw [ef] at KR
                      have hr14 : (r : Int) < 14 := by have := HLE.out; omega
                      have hr0 : ¬ (r : Int) < 0 := by omega
                      have hr1 : (0 : Int) ≤ (r : Int) := by omega
                      have hwr1 : IntKind.i64.wrap (65 + (r : Int)) = 65 + (r : Int) := by simp [IntKind.wrap, IntKind.bits, IntKind.signed]; omega
                      have hwr2 : IntKind.u8.wrap (65 + (r : Int)) = 65 + (r : Int) := by simp [IntKind.wrap, IntKind.bits, IntKind.signed]; omega
                      obtain ⟨val, hvl⟩ : ∃ val : ByteArray, val = ⟨#[UInt8.ofNat (65 + r)]⟩ := ⟨_, rfl⟩
                      have KR := Lib.hid (show Calls Tryz.prog 11 #[.pointer (some ⟨q, 0, none⟩)] w7 (Gives (.tuple #[.agg #[.int .i64 2, .int .i64 fy, .int .u64 (fw : Int), .string val], .bool true]) w7) by
                        rw [hvl]; exact KR.out)
                      have hbv : ((UInt8.ofNat (65 + r)).toNat : Int) = 65 + (r : Int) := by simp; omega
                      have KC := fun (W : World) (g : Nat) (h : W.cell? ⟨g, 0, none⟩ = some (.int .u8 (65 + (r : Int)))) => conv_one g 1 (UInt8.ofNat (65 + r)) W (by rw [hbv]; exact h)
                      rw [← hvl] at KC
                      have KC := Lib.hid KC
                      clear ef HYN HFi hfL hfk hfm hf0 hvl hbv
                      go_wp2_with fail
                      with_reducible refine KR.out.mono ?_
                      rintro e w8 ⟨rfl, hb8⟩
                      obtain ⟨W8, hW8⟩ : ∃ W8, W8 = w8.alloc (.cells #[.int .i64 2, .int .i64 fy, .int .u64 (fw : Int), .string val] 40) := ⟨_, rfl⟩
                      obtain ⟨y, hy⟩ : ∃ y, y = w8.heap.size := ⟨_, rfl⟩
                      have hbW : Below w8.heap.size w8 W8 := by rw [hW8]; exact (Below.refl _ w8).alloc (Nat.le_refl _) _
                      have o8 : W8.heap[y]? = some (.cells #[.int .i64 2, .int .i64 fy, .int .u64 (fw : Int), .string val] 40 (0, 0)) := by rw [hW8, hy]; exact heap_alloc_new w8 _
                      have o9 : ∀ o, (W8.alloc o).heap[y]? = some (.cells #[.int .i64 2, .int .i64 fy, .int .u64 (fw : Int), .string val] 40 (0, 0)) := fun o => (Below.heap_alloc _ _ _ (Array.getElem?_eq_some_iff.1 o8).1).trans o8
                      have d0 : W8.cell? ⟨y, 0, none⟩ = some (.int .i64 2) := by simp [World.cell?, o8]
                      have d3 : W8.cell? ⟨y, 3, none⟩ = some (.string val) := by simp [World.cell?, o8]
                      have d9 : ∀ o, (W8.alloc o).cell? ⟨y, 3, none⟩ = some (.string val) := fun o => by simp [World.cell?, o9 o]
                      have hconv := KC.out (W8.alloc (.cells #[.int .u8 (65 + (r : Int))] 5)) W8.heap.size (by
                        have := heap_alloc_new W8 (.cells #[.int .u8 (65 + (r : Int))] 5)
                        unfold World.cell?
                        simp only [this]
                        rfl)
                      have hbW2 : Below w8.heap.size w8 (W8.alloc (.cells #[.int .u8 (65 + (r : Int))] 5)) := hbW.alloc hbW.size _
                      have HB8 := Lib.hid (show Below w7.heap.size w7 (W8.alloc (.cells #[.int .u8 (65 + (r : Int))] 5)) from hb8.trans (hbW2.mono hb8.size))
                      have HW8 := Lib.hid hW8
                      have HY := Lib.hid hy
                      clear hW8 hy hbW o8 o9 hb8 KR hbW2 KC
                      go_wp2_with (rw [← HW8.out, ← HY.out])
                      obtain ⟨hA, hS1, hS2, hP, hBw⟩ := HIN3.out
                      have J8 : Hid (Fsw B p B z2 (siteO 1 (th : Int) (nn : Int) kp (sd : Int)) (tabO 2 (lgn : Int)) (FsM L nn G (kF keys) vF (fun _ => th) (nn : Int) kp sd (lgn : Int) L (600 * L + 600 * (j + 1))) w (W8.alloc (.cells #[.int .u8 (65 + (r : Int))] 5))) := Lib.hid ⟨⟨F7, _, hA.below HB8.out (Nat.le_refl _), hS1.below HB8.out, hS2.below HB8.out, hP⟩, hBw.trans (HB8.out.mono (by rw [HBE.out]; exact hBw.size))⟩
                      exact ⟨⟨j + 1, by omega, by go_num, J8⟩, by simp [intOf]; omega⟩
            · have hleZ : ¬ (j : Int) ≤ (L : Int) := by omega
              obtain ⟨⟨F, M, hA, hS1, hS2, hP⟩, hBw⟩ := HI.out
              have KF := faults_any hA
              rw [hP.faults] at KF
              have hBwe : Below w.heap.size w wr := by rw [← HBE.out]; exact hBw
              have KF := Lib.hid (show Calls Tryz.prog 18 #[.pointer (some ⟨p, 0, none⟩)] wr (Same (.int .i64 0) wr) from KF)
              have KA := Lib.hid (awake_any wr (HBD.out.below hBwe))
              have HBW := Lib.hid hBwe
              clear hA hS1 hS2 hP hBw hBwe HI
              go_wp2_with fail
              with_reducible refine KF.out.mono ?_
              rintro e w8 ⟨rfl, rfl⟩
              go_wp2_with fail
              with_reducible refine KA.out.mono ?_
              rintro e w9 ⟨rfl, hb9⟩
              have BF := Lib.hid (HBW.out.trans (hb9.mono HBW.out.size))
              clear hb9
              go_wp2
              go_ret
              exact ⟨rfl, BF.out⟩
end Go.Proofs.YtknefjigdlbacaaGreatDoor
