/-
  The walk of the document's Make. By an AI agent.
-/
import Derived.Test.YtdhhhkjbpfhkaaaMkMake
set_option linter.unusedSimpArgs false
set_option linter.unusedVariables false
namespace Go.Proofs.Ytdhhhkjbpfhkaaa
open Go.RowKit Go.Maps
open Ac (A)
/-- What the document's Make comes to. -/
def Told (B t : Nat) (ad : Option Addr) (gs l : List Nat) (c : Nat) (w : World) (e : Ending) (w' : World) : Prop := e = .returned (.int .u64 ((gs.getD 0 0 : Nat) : Int)) ∧ Ts B w' t ad gs c (cnt l.length (gs.getD 0 0)) (ac l (gs.getD 0 0) gs.length) ∧ Below B w w'
/-- Words that lie at the head of a block. -/
theorem sl_nat {w : World} {l : List Nat} {B g : Nat} (hl : 1 ≤ l.length) (hs : Sl .u64 w B (some ⟨g, 0, none⟩) (Kr.up l)) : g < B ∧ ∀ i, i < l.length → w.cell? ⟨g, i, none⟩ = some (.int .u64 ((l.getD i 0 : Nat) : Int)) := by
  rcases hs with h0 | ⟨b, off, e, hlt, hc⟩
  · have : (Kr.up l).length = 0 := by rw [h0]; rfl
    rw [Kr.up_len] at this; omega
  · injection e with e
    injection e with e1 e2
    subst e1 e2
    refine ⟨hlt, fun i hi => ?_⟩
    have := hc i (by rw [Kr.up_len]; exact hi)
    rw [Kr.up_get hi, Nat.zero_add] at this
    exact this
set_option maxRecDepth 100000 in
set_option maxHeartbeats 4000000 in
theorem rmake_any {B : Nat} {w : World} {t c : Nat} {ad : Option Addr} {gs : List Nat} (k v : ByteArray) (hk : k.size ≤ 16) (hv : v.size ≤ 24) (h : Ts B w t ad gs c 0 (ac (Kr.bx k.data.toList v.data.toList) (gs.getD 0 0) gs.length)) (hm : gs.length ≤ 1000000) :
    Calls Try.prog 10 #[.pointer (some ⟨t, 0, none⟩), .string k, .string v] w (Told B t ad gs (Kr.bx k.data.toList v.data.toList) c w) := by
  have hbd := Kr.bx_bd (k := k.data.toList) (v := v.data.toList) (by rw [ba_len]; exact hk) (by rw [ba_len]; exact hv)
  have KW := rwords_yes k v w hk hv
  rw [← Kr.bx_up] at KW
  generalize Kr.bx k.data.toList v.data.toList = l at *
  have HW := Lib.hid KW; clear KW
  obtain ⟨b, hb⟩ : ∃ b, b = gs.getD 0 0 := ⟨_, rfl⟩
  have H0 := Lib.hid h
  have HB := Lib.hid hb
  have HE := Lib.hid hbd
  have hl6 : l.length ≤ 6 := hbd.2
  clear h hb hbd
  have hzz : ((b : Int) == 0) = true ∧ b = 0 ∨ ((b : Int) == 0) = false ∧ b ≠ 0 := by
    by_cases hz : b = 0
    · exact .inl ⟨by rw [hz]; rfl, hz⟩
    · exact .inr ⟨by simp; omega, hz⟩
  rcases hzz with ⟨hz', hz⟩ | ⟨hz', hz⟩
  all_goals
    have HZ := Lib.hid hz; clear hz
    go_enter Try.func10, Try.ntmps10
    go_wp2_with fail
    with_reducible refine HW.out.mono ?_
    rintro e w1 ⟨A, c2, rfl, hs, hb1, g, rfl, hg⟩
    obtain ⟨hgl, hc⟩ := sl_nat HE.out.1 hs
    have h1 := H0.out.below hb1
    have hgt : g ≠ t := by have := H0.out.own.lt; omega
    have KA := talloc_any l.length h1 (by intro e; rw [← e]; rfl) hm
    rw [← HB.out] at KA
    have HA := Lib.hid KA
    have HC := Lib.hid hc
    have HGT := Lib.hid (show g ≠ t ∧ g < w1.heap.size from ⟨hgt, hgl⟩)
    have B1 := Lib.hid (hb1.mono H0.out.bw)
    clear KA hc hgl hs hb1 hgt h1 hg
    obtain ⟨n, hn⟩ : ∃ n, n = (Kr.up l).length := ⟨_, rfl⟩
    rw [← hn]
    have hn' := hn.trans (Kr.up_len l)
    rw [← hn'] at HA
    have HN := Lib.hid hn'
    clear hn hn'
    go_wp2_with fail
    with_reducible refine HA.out.mono ?_
    rintro e w2 ⟨rfl, h2, hc2⟩
    have H2 := Lib.hid h2
    have HC2 := Lib.hid hc2
    clear h2 hc2 HA
  · go_wp2
    go_ret
    unfold Told
    rw [← HB.out]
    refine ⟨ret_int (by have := HZ.out; omega), ?_, B1.out.trans (HC2.out.below (fun k hk => by have := H0.out.tB; omega) (Nat.le_trans H0.out.bw B1.out.size))⟩
    have := H2.out
    rwa [show cnt l.length b = 0 + 1 from by rw [HZ.out]; rfl]
  · have hn6 : n ≤ 6 := by rw [HN.out]; exact hl6
    go_wp2
    go_loopw [10] (fun i wr => ∃ k : Nat, k ≤ n ∧ i = .int .i64 k ∧ Ts B wr t ad gs c (k + 1) (ac l b gs.length) ∧ Chg t w1 wr) (fun i _ => n - (intOf i).toNat)
    case atStart => exact ⟨0, by omega, rfl, H2.out, HC2.out⟩
    case round =>
      clear H2 HC2
      obtain ⟨k, hk, rfl, hts, hch⟩ := hrel
      by_cases hlt : k < n
      · have hltl : k < l.length := by rw [← HN.out]; exact hlt
        have g1 := (show wr.cell? ⟨g, k, none⟩ = some (.int .u64 ((l.getD k 0 : Nat) : Int)) by rw [World.cell?, hch.block g HGT.out.2 HGT.out.1]; exact HC.out k hltl)
        have KS := Lib.hid (tstore_any b k (l.getD k 0) hts (by intro e; rw [← e]; simp [ac]) hm)
        have HCH := Lib.hid hch
        clear hts hch
        generalize l.getD k 0 = y at *
        go_wp2_with fail
        with_reducible refine KS.out.mono ?_
        rintro e w3 ⟨rfl, h3, hc3⟩
        have H3 := Lib.hid h3
        have HC3 := Lib.hid (HCH.out.trans hc3)
        clear h3 hc3
        go_wp2
        go_roundw
        case rel => exact ⟨k + 1, by omega, by go_num, H3.out, HC3.out⟩
        case measure => simp [intOf]; omega
      · obtain rfl : k = n := by omega
        go_wp2
        go_ret
        unfold Told
        rw [← HB.out]
        refine ⟨rfl, ?_, B1.out.trans (hch.below (fun k hk => by have := H0.out.tB; omega) (Nat.le_trans H0.out.bw B1.out.size))⟩
        rwa [show cnt l.length b = k + 1 from by rw [HN.out]; simp [cnt, HZ.out]]
end Go.Proofs.Ytdhhhkjbpfhkaaa
