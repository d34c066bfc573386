/-
  The walk of ReaderReads. By an AI agent.
-/
import Derived.Test.YtmpoaepkfjeecaaRdAwake
set_option linter.unusedSimpArgs false
set_option linter.unusedVariables false
namespace Go.Proofs.Ytmpoaepkfjeecaa
open Go.RowKit Go.Maps
open Mm (Mem Blk)
open Ac (A)
set_option maxHeartbeats 1000000 in
theorem reads_out (k v o : ByteArray) (w : World) (hk : k.size ≤ maxLen) (hv : v.size ≤ maxLen) (ho : o.size ≤ maxLen) (h : 16 < k.size ∨ 24 < v.size ∨ 16 < o.size) :
    Calls Try.prog 4 #[.string k, .string v, .string o] w (Gives (.bool true) w) := by
  unfold maxLen at hk hv ho
  have AW := Lib.hid awake_any
  have hcs : (16 : Int) < (k.size : Int) ∨ (¬ (16 : Int) < (k.size : Int) ∧ (24 : Int) < (v.size : Int)) ∨ (¬ (16 : Int) < (k.size : Int) ∧ ¬ (24 : Int) < (v.size : Int) ∧ (16 : Int) < (o.size : Int)) := by omega
  clear h
  rcases hcs with h1 | ⟨h1, h2⟩ | ⟨h1, h2, h3⟩
  all_goals
    go_enter Try.func4, Try.ntmps4
    go_wp2_with fail
    with_reducible refine (AW.out _).mono ?_
    rintro e w' ⟨rfl, hb⟩
    go_wp2
    go_ret
    exact ⟨rfl, hb⟩
theorem Mst.mono {B C : Nat} {w : World} {q g c j b : Nat} {l : List Nat} (h : Mst B w q l g c j b) (hC : C ≤ B) : Mst C w q l g c j b := ⟨Nat.le_trans hC h.qB, Nat.le_trans hC h.gB, h.ne, h.own, h.ltg, h.wds⟩
theorem kres_end {n b : Nat} (hb : b ≠ 0) : kres n (n + 1) b = .tuple #[.int .u64 b, .bool true] := by
  unfold kres Kr.more
  rw [if_neg (by simp)]
theorem Rst.apart0 {q : Nat} {gs : List Nat} {F : Nat → Prop} (h : ¬ F q) : ∀ k, Rst.F q gs 0 none 0 k → ¬ F k := by
  rintro k (rfl | hk)
  · exact h
  · cases hk
theorem rst_newB {B : Nat} {w w' : World} {b : Nat} (gs : List Nat) (hB : B ≤ w.heap.size) (h : Rb w' w.heap.size ⟨1, b, 0, 0, 0⟩ none 0 0) : Rst B w' w.heap.size b gs 0 none 0 :=
  ⟨hB, by rw [Rd.act_zero, Rd.nr_zero]; exact h, by rw [Rd.nr_zero, Rd.rd_zero]; exact World.ownsRow_nil _ _ _ _, Nat.zero_le _⟩
set_option maxRecDepth 100000 in
set_option maxHeartbeats 4000000 in
theorem reads_in (k v o : ByteArray) (w : World) (hk : k.size ≤ 16) (hv : v.size ≤ 24) (ho : o.size ≤ 16) :
    Calls Try.prog 4 #[.string k, .string v, .string o] w (Gives (.bool true) w) := by
  have AW := Lib.hid awake_any
  have hk' : k.data.toList.length ≤ 16 := by rw [ba_len]; exact hk
  have hv' : v.data.toList.length ≤ 24 := by rw [ba_len]; exact hv
  have hbo := Kr.bx_bd (k := o.data.toList) (v := []) (by rw [ba_len]; exact ho) (by decide)
  have hbd := Kr.bx_bd hk' hv'
  have hsz := Rd.sz_bx hk' hv'
  have hwf := Rd.bx_wf k.data.toList v.data.toList
  have hkey : (⟨(Rd.key (Kr.bx k.data.toList v.data.toList)).toArray⟩ : ByteArray) = k := by rw [Rd.key_bx hk' hv']
  have hval : (⟨(Rd.val (Kr.bx k.data.toList v.data.toList)).toArray⟩ : ByteArray) = v := by rw [Rd.val_bx hk' hv']
  have KN : Hid (∀ w1, Calls Try.prog 11 #[.int .i64 20] w1 fun e w' => e = .returned (.pointer (some ⟨w1.heap.size + 1, 0, none⟩)) ∧ ∃ F, Ax w1.heap.size w' (w1.heap.size + 1) ⟨20, 0, 0, []⟩ F ∧ Below w1.heap.size w1 w' ∧ w1.heap.size + 2 = w'.heap.size) := Lib.hid fun w1 => new_ok 20 (by omega) (by omega) w1
  have KM1 : Hid (∀ w1, Calls Try.prog 12 #[.string o, .string ⟨#[]⟩] w1 (Makes w1.heap.size (Kr.bx o.data.toList []) w1)) := Lib.hid fun w1 => knew_any o ⟨#[]⟩ w1 ho (by decide)
  have KM2 : Hid (∀ w1, Calls Try.prog 12 #[.string k, .string v] w1 (Makes w1.heap.size (Kr.bx k.data.toList v.data.toList) w1)) := Lib.hid fun w1 => knew_any k v w1 hk hv
  generalize Kr.bx o.data.toList [] = lo at *
  generalize Kr.bx k.data.toList v.data.toList = l at *
  have HBO := Lib.hid hbo; clear hbo
  have HBD := Lib.hid hbd; clear hbd
  have HSZ := Lib.hid hsz; clear hsz
  have HWF := Lib.hid hwf; clear hwf
  have HKEY := Lib.hid hkey; clear hkey
  have HVAL := Lib.hid hval; clear hval
  clear hk' hv'
  have a1 : ¬ (16 : Int) < (k.size : Int) := by omega
  have a2 : ¬ (24 : Int) < (v.size : Int) := by omega
  have a3 : ¬ (16 : Int) < (o.size : Int) := by omega
  have KR : Hid (∀ (B : Nat) (W : World) (q : Nat) (ad : Option Addr) (c : Nat), Rst B W q 2 l l.length ad c → Calls Try.prog 8 #[.pointer (some ⟨q, 0, none⟩)] W (Gives (.tuple #[.agg #[.string k, .string v], .bool true]) W)) := Lib.hid (fun B W q ad c h => by
    have := rres_any h HWF.out
    unfold rres pr at this
    rw [if_neg (by have := HSZ.out; omega), HKEY.out, HVAL.out] at this
    exact this)
  obtain ⟨B, hB⟩ : ∃ B, B = w.heap.size := ⟨_, rfl⟩
  have HB := Lib.hid hB
  go_enter Try.func4, Try.ntmps4
  go_wp2_with fail
  with_reducible refine (KN.out _).mono ?_
  rintro e w1 ⟨rfl, F1, hA1, hb1, -⟩
  rw [← hB] at hA1 hb1
  have HA1 := Lib.hid hA1
  have HB1 := Lib.hid hb1
  obtain ⟨p, hp⟩ : ∃ p, p = w.heap.size + 1 := ⟨_, rfl⟩
  rw [← hp]
  have HA1 := Lib.hid (show Ax B w1 p ⟨20, 0, 0, []⟩ F1 by rw [hp, ← hB]; exact HA1.out)
  clear hA1 hb1 KN hp hB
  go_wp2_with fail
  with_reducible refine (KM1.out _).mono ?_
  rintro e w2 ⟨q1, g1, c1, rfl, hM1, hb2⟩
  have HM1 := Lib.hid hM1
  have HB2 := Lib.hid hb2
  clear hM1 hb2 KM1
  go_wp2_with fail
  with_reducible refine (KM2.out _).mono ?_
  rintro e w3 ⟨q2, g2, c2, rfl, hM2, hb3⟩
  have hs1 : B ≤ w1.heap.size := by have := HB1.out.size; have := HB.out; omega
  have hs2 := HB2.out.size
  have hs3 := hb3.size
  have hA3 : Ax B w3 p ⟨20, 0, 0, []⟩ F1 := (HA1.out.below HB2.out (Nat.le_refl _)).below hb3 (Nat.le_refl _)
  have hM13 : Mst B w3 q1 lo g1 c1 0 0 := (HM1.out.below hb3).mono hs1
  have hF1 : ∀ j, F1 j → j < w1.heap.size := fun j hj => (HA1.out.foot hj).2
  have hap1 : ¬ F1 q1 ∧ ¬ F1 g1 := ⟨fun e => by have := hF1 _ e; have := HM1.out.qB; omega, fun e => by have := hF1 _ e; have := HM1.out.gB; omega⟩
  have hl1 : q1 < w2.heap.size ∧ g1 < w2.heap.size := ⟨HM1.out.own.lt, HM1.out.ltg⟩
  have hap2 : ¬ Or2 F1 (fun j => j = q1 ∨ j = g1) q2 ∧ ¬ Or2 F1 (fun j => j = q1 ∨ j = g1) g2 := by
    constructor
    · rintro (e | e | e)
      · have := hF1 _ e; have := hM2.qB; omega
      · have := hM2.qB; omega
      · have := hM2.qB; omega
    · rintro (e | e | e)
      · have := hF1 _ e; have := hM2.gB; omega
      · have := hM2.gB; omega
      · have := hM2.gB; omega
  have KA1 := Lib.hid (kalone2 (most := 20) hA3 hM13 hap1 (by omega) hA3.good (by show lo.length ≤ 20 - 0; have := HBO.out.2; omega) (by show 0 ≤ _; omega) HBO.out.1 HBO.out.2 (by omega))
  have HFB := Lib.hid (show ∀ j, Or2 F1 (fun j => j = q1 ∨ j = g1) j → B ≤ j by
    rintro j (e | rfl | rfl)
    · exact (HA1.out.foot e).1
    · exact Nat.le_trans hs1 HM1.out.qB
    · exact Nat.le_trans hs1 HM1.out.gB)
  have HM2 := Lib.hid hM2
  have HAP2 := Lib.hid hap2
  have HS3 := Lib.hid (show B ≤ w3.heap.size ∧ B ≤ w2.heap.size by omega)
  have HB3 := Lib.hid (HB1.out.trans ((HB2.out.mono hs1).trans (hb3.mono (by omega))))
  clear hM2 hb3 hs1 hs2 hs3 hA3 hM13 hF1 hap1 hl1 hap2 KM2 HM1 HB1 HB2 HA1
  go_wp2_with fail
  with_reducible refine KA1.out.mono ?_
  rintro e w4 ⟨rfl, F4, H4, g1', c1', hA4, -, hF4, ht4⟩
  have hout : ∀ j, j < w3.heap.size → ¬ Or2 F1 (fun j => j = q1 ∨ j = g1) j → ¬ F4 j := fun j hj hn e => (ht4.foot j (.inl e)).elim hn (fun e2 => by omega)
  have hM24 : Mst B w4 q2 l g2 c2 0 0 := (HM2.out.keep ht4.size (ht4.block _ HM2.out.own.lt HAP2.out.1) (ht4.block _ HM2.out.ltg HAP2.out.2)).mono HS3.out.2
  have hA4' : Ax B w4 p ⟨20, 1, 0, [(1, Kr.up lo)]⟩ F4 := hA4
  have KA2 := Lib.hid (kalone2 (most := 20) hA4' hM24 ⟨hout _ HM2.out.own.lt HAP2.out.1, hout _ HM2.out.ltg HAP2.out.2⟩ (by have := ht4.size; have := HS3.out.1; omega) hA4'.good (by show l.length ≤ 20 - ((Kr.up lo).length + 0); rw [Kr.up_len]; have := HBO.out.2; have := HBD.out.2; omega) (by show 1 ≤ _; omega) HBD.out.1 HBD.out.2 (by omega))
  have HS4 := Lib.hid (show B ≤ w4.heap.size by have := ht4.size; have := HS3.out.1; omega)
  have HBL4 := Lib.hid (HB3.out.trans (ht4.below HFB.out HS3.out.1))
  have HFB4 := Lib.hid (show ∀ j, Or2 F4 (fun j => j = q2 ∨ j = g2) j → B ≤ j by
    rintro j (e | rfl | rfl)
    · exact (hF4 _ e).1
    · exact hM24.qB
    · exact hM24.gB)
  clear hout hM24 hA4 hA4' hF4 ht4 KA1 HFB HB3 HM2 HAP2 HS3
  go_wp2_with fail
  with_reducible refine KA2.out.mono ?_
  rintro e w5 ⟨rfl, F5, H5, g2', c2', hA5, hM5, hF5, ht5⟩
  have KS := kres_any hM5
  rw [kres_end (by omega)] at KS
  have KS := Lib.hid (show Calls Try.prog 14 #[.pointer (some ⟨q2, 0, none⟩)] w5 (Same (.tuple #[.int .u64 2, .bool true]) w5) from KS)
  have hg5 : Mm.get (Smx ⟨20, 1, 0, [(1, Kr.up lo)]⟩ (Kr.up l)).L 2 = some (Kr.up l) := rfl
  have hf5 : (Smx ⟨20, 1, 0, [(1, Kr.up lo)]⟩ (Kr.up l)).faults = 0 := rfl
  generalize Smx ⟨20, 1, 0, [(1, Kr.up lo)]⟩ (Kr.up l) = S at *
  have HG := Lib.hid hg5
  have HF := Lib.hid hf5
  have HA5 := Lib.hid hA5
  have HB5 := Lib.hid (HBL4.out.trans (ht5.below HFB4.out HS4.out))
  have HS5 := Lib.hid (show B ≤ w5.heap.size by have := ht5.size; have := HS4.out; omega)
  have HF5 := Lib.hid (fun j hj => (hF5 j hj).2)
  clear hA5 hM5 hF5 ht5 hg5 hf5 KA2 HBL4 HFB4 HS4
  go_wp2_with fail
  with_reducible refine KS.out.mono ?_
  rintro e w5' ⟨rfl, rfl⟩
  have KW : Hid (∀ W : World, B ≤ W.heap.size → Calls Try.prog 6 #[.int .u64 2] W fun e w' => e = .returned (.pointer (some ⟨W.heap.size, 0, none⟩)) ∧ Rst B w' W.heap.size 2 l 0 none 0 ∧ Below W.heap.size W w') := Lib.hid (fun W hW => by
    refine (rnew_any 2 W).mono ?_
    rintro e w' ⟨rfl, h1, h2⟩
    exact ⟨rfl, rst_newB l hW h1, h2⟩)
  have KW5 := Lib.hid (KW.out w5 HS5.out)
  clear KS
  go_wp2_with fail
  with_reducible refine KW5.out.mono ?_
  rintro e w6 ⟨rfl, hR6, hb6⟩
  have hA6 : Ax B w6 p S F5 := HA5.out.below hb6 (Nat.le_refl _)
  have HAL := Lib.hid (show ∀ (W : World) (F : Nat → Prop) (q : Nat), Ax B W p S F → Rst B W q 2 l 0 none 0 → ¬ F q → B ≤ W.heap.size → Calls Try.prog 13 #[.pointer (some ⟨p, 0, none⟩), rvr q, .int .i64 20] W (Rdone B p q 2 S l F (Rst.F q l 0 none 0) W) from
    fun W F q h1 h2 h3 h4 => ralone h1 h2 (Rst.apart0 h3) h4 (by omega) HG.out HSZ.out HWF.out 20 (by omega))
  obtain ⟨q3, hq3⟩ : ∃ q3, q3 = w5.heap.size := ⟨_, rfl⟩
  rw [← hq3] at hR6 ⊢
  have KA := Lib.hid (HAL.out w6 F5 q3 hA6 hR6 (fun e => by have := HF5.out _ e; omega) (by have := hb6.size; have := HS5.out; omega))
  have HB6 := Lib.hid (HB5.out.trans (hb6.mono HS5.out))
  have HS6 := Lib.hid (show B ≤ w6.heap.size by have := hb6.size; have := HS5.out; omega)
  clear hA6 hR6 hq3 hb6 KW5 HB5 HS5 HF5 HA5
  go_wp2_with fail
  with_reducible refine KA.out.mono ?_
  rintro e w7 ⟨rfl, hb7, F7, H7, hA7, ht7, ad7, c7, hR7⟩
  have KR7 := Lib.hid (KR.out _ _ _ _ _ hR7)
  have HB7 := Lib.hid (HB6.out.trans hb7)
  have HA7 := Lib.hid hA7
  have HS7 := Lib.hid (show B ≤ w7.heap.size by have := ht7.size; have := HS6.out; omega)
  clear hb7 hA7 ht7 hR7 KA HB6 HS6
  obtain ⟨n, hn⟩ : ∃ n, n = l.length := ⟨_, rfl⟩
  rw [← hn]
  have HN := Lib.hid hn
  clear hn
  go_wp2_with fail
  with_reducible refine KR7.out.mono ?_
  rintro e w8 ⟨rfl, hb8⟩
  obtain ⟨W8, hW8⟩ : ∃ W8, W8 = w8.alloc (.cells #[.string k, .string v] 33) := ⟨_, rfl⟩
  have hbw8 : Below w8.heap.size w8 W8 := by rw [hW8]; exact (Below.refl _ w8).alloc (Nat.le_refl _) _
  have hq8 : W8.heap[w8.heap.size]? = some (.cells #[.string k, .string v] 33 (0, 0)) := by rw [hW8]; exact heap_alloc_new w8 _
  have hb78 := hb8.trans (hbw8.mono hb8.size)
  have hA8 : Ax B W8 p S F7 := HA7.out.below hb78 (Nat.le_refl _)
  have hz8 : ¬ F7 w8.heap.size := fun e => by have := (HA7.out.foot e).2; have := hb8.size; omega
  have y0 : W8.cell? ⟨w8.heap.size, 0, none⟩ = some (.string k) := by simp [World.cell?, hq8]
  have y1 : W8.cell? ⟨w8.heap.size, 1, none⟩ = some (.string v) := by simp [World.cell?, hq8]
  have hlt8 : w8.heap.size < W8.heap.size := (Array.getElem?_eq_some_iff.1 hq8).1
  have KZ := size_any hA8 (b := 2) (by omega)
  rw [show szOf S 2 = n by unfold szOf; rw [HG.out, HN.out]; exact Kr.up_len l] at KZ
  have KZ := Lib.hid (show Calls Try.prog 15 #[.pointer (some ⟨p, 0, none⟩), .int .u64 2] W8 (Same (.int .i64 (n : Int)) W8) from KZ)
  have HA8 := Lib.hid hA8
  have HQ8 := Lib.hid hq8
  have HZ8 := Lib.hid hz8
  have HL8 := Lib.hid hlt8
  have HB8 := Lib.hid (HB7.out.trans (hb78.mono HS7.out))
  have HS8 := Lib.hid (show B ≤ W8.heap.size by have := hb78.size; have := HS7.out; omega)
  clear hbw8 hq8 hb78 hA8 hz8 hlt8 hb8 KR7 HB7 HS7 HA7
  have ek : (k.toList == k.toList) = true := by simp
  have ev : (v.toList == v.toList) = true := by simp
  have en : ((n : Int) == (n : Int)) = true := by simp
  go_wp2_with fail
  rw [← hW8]
  clear hW8
  generalize w8.heap.size = z8 at y0 y1 HQ8 HZ8 HL8 ⊢
  with_reducible refine KZ.out.mono ?_
  rintro e w8' ⟨rfl, rfl⟩
  have KW8 := Lib.hid (KW.out W8 HS8.out)
  clear KZ KW y0 y1
  go_wp2_with fail
  with_reducible refine KW8.out.mono ?_
  rintro e w9 ⟨rfl, hR9, hb9⟩
  have hA9 : Ax B w9 p S F7 := HA8.out.below hb9 (Nat.le_refl _)
  obtain ⟨q4, hq4⟩ : ∃ q4, q4 = W8.heap.size := ⟨_, rfl⟩
  rw [← hq4] at hR9 ⊢
  have KA := Lib.hid (HAL.out w9 F7 q4 hA9 hR9 (fun e => by have := (HA8.out.foot e).2; omega) (by have := hb9.size; have := HS8.out; omega))
  have HQ9 := Lib.hid ((hb9.block z8 HL8.out).trans HQ8.out)
  have HNZ := Lib.hid (show ¬ Or2 F7 (Rst.F q4 l 0 none 0) z8 by
    rintro (e | e | e)
    · exact HZ8.out e
    · have := HL8.out; omega
    · cases e)
  have HB9 := Lib.hid (HB8.out.trans (hb9.mono HS8.out))
  have HS9 := Lib.hid (show B ≤ w9.heap.size ∧ z8 < w9.heap.size by have := hb9.size; have := HS8.out; have := HL8.out; omega)
  clear hA9 hR9 hq4 hb9 KW8 HB8 HS8 HA8 HQ8 HZ8 HL8 HAL
  go_wp2_with fail
  with_reducible refine KA.out.mono ?_
  rintro e w10 ⟨rfl, hb10, F10, H10, hA10, ht10, ad10, c10, hR10⟩
  have KR10 := Lib.hid (KR.out _ _ _ _ _ hR10)
  have HB10 := Lib.hid (HB9.out.trans hb10)
  have HA10 := Lib.hid hA10
  have HQ10 := Lib.hid ((ht10.block z8 HS9.out.2 HNZ.out).trans HQ9.out)
  have HS10 := Lib.hid (show B ≤ w10.heap.size ∧ z8 < w10.heap.size by have := ht10.size; have := HS9.out; omega)
  clear hb10 hA10 ht10 hR10 KA HB9 HS9 HQ9 HNZ
  rw [← HN.out]
  go_wp2_with fail
  with_reducible refine KR10.out.mono ?_
  rintro e w11 ⟨rfl, hb11⟩
  have hbo : ∀ o, Below w11.heap.size w11 (w11.alloc o) := fun o => (Below.refl _ w11).alloc (Nat.le_refl _) _
  have hq11 := (hb11.block z8 HS10.out.2).trans HQ10.out
  have hl11 : z8 < w11.heap.size := by have := hb11.size; have := HS10.out; omega
  have y0 : ∀ o, (w11.alloc o).cell? ⟨z8, 0, none⟩ = some (.string k) := fun o => by simp [World.cell?, ((hbo o).block z8 hl11).trans hq11]
  have y1 : ∀ o, (w11.alloc o).cell? ⟨z8, 1, none⟩ = some (.string v) := fun o => by simp [World.cell?, ((hbo o).block z8 hl11).trans hq11]
  have KF := Lib.hid (fun o => show Calls Try.prog 16 #[.pointer (some ⟨p, 0, none⟩)] (w11.alloc o) (Same (.int .i64 0) (w11.alloc o)) by
    have := faults_any ((HA10.out.below hb11 (Nat.le_refl _)).below (hbo o) (Nat.le_refl _))
    rwa [HF.out] at this)
  have q2 := eq_pr k v
  have HB11 := Lib.hid (fun o => (HB10.out.trans (hb11.mono HS10.out.1)).trans ((hbo o).mono (show B ≤ w11.heap.size by have := hb11.size; have := HS10.out; omega)))
  have HS11 := Lib.hid (fun o => show B ≤ (w11.alloc o).heap.size by have := (hbo o).size; have := hb11.size; have := HS10.out; omega)
  clear hbo hq11 hl11 hb11 KR10 HB10 HS10 HA10 HQ10
  go_wp2_with fail
  with_reducible refine (KF.out _).mono ?_
  rintro e w12 ⟨rfl, rfl⟩
  go_wp2_with fail
  with_reducible refine (AW.out _).mono ?_
  rintro e w13 ⟨rfl, hb13⟩
  have HB13 := Lib.hid ((HB11.out _).trans (hb13.mono (HS11.out _)))
  clear hb13
  go_wp2
  go_ret
  exact ⟨rfl, HB.out ▸ HB13.out⟩
end Go.Proofs.Ytmpoaepkfjeecaa
