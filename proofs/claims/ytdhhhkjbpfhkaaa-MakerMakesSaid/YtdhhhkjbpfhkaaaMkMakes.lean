/-
  The walk of MakerMakes. By an AI agent.
-/
import Derived.Test.YtdhhhkjbpfhkaaaMkAwake
import Derived.Test.YtdhhhkjbpfhkaaaMkMake2
set_option linter.unusedSimpArgs false
set_option linter.unusedVariables false
namespace Go.Proofs.Ytdhhhkjbpfhkaaa
open Go.RowKit Go.Maps
open Mm (Mem Blk)
open Ac (A)
set_option maxHeartbeats 1000000 in
theorem makes_out (k v : ByteArray) (cu : Int) (w : World) (hk : k.size ≤ maxLen) (hv : v.size ≤ maxLen) (h : 16 < k.size ∨ 24 < v.size) :
    Calls Try.prog 4 #[.string k, .string v, .int .u8 cu] w (Gives (.bool true) w) := by
  unfold maxLen at hk hv
  have AW := Lib.hid awake_any
  by_cases h2 : 16 < k.size
  · clear h
    go_enter Try.func4, Try.ntmps4
    go_wp2_with fail
    with_reducible refine (AW.out _).mono ?_
    rintro e w' ⟨rfl, hb⟩
    go_wp2
    go_ret
    exact ⟨rfl, hb⟩
  · have h3 : 24 < v.size := by omega
    clear h
    go_enter Try.func4, Try.ntmps4
    go_wp2_with fail
    with_reducible refine (AW.out _).mono ?_
    rintro e w' ⟨rfl, hb⟩
    go_wp2
    go_ret
    exact ⟨rfl, hb⟩
set_option maxRecDepth 100000 in
set_option maxHeartbeats 4000000 in
theorem makes_none (k v : ByteArray) (cu r : Nat) (w : World) (hk : k.size ≤ 16) (hv : v.size ≤ 24) (hcu : cu < 256) (hr : r = cu % 12 + 1) (hn : r < (Kr.bx k.data.toList v.data.toList).length) :
    Calls Try.prog 4 #[.string k, .string v, .int .u8 (cu : Int)] w (Gives (.bool true) w) := by
  have AW := Lib.hid awake_any
  have hr1 : 1 ≤ r ∧ r ≤ 12 := by omega
  have hbd := Kr.bx_bd (k := k.data.toList) (v := v.data.toList) (by rw [ba_len]; exact hk) (by rw [ba_len]; exact hv)
  have KN := Lib.hid (show ∀ w1, Calls Try.prog 11 #[.int .i64 (r : Int)] w1 (Anew r w1) from fun w1 => new_ok r (by omega) (by omega) w1)
  have KM := fun w1 => knew_any k v w1 hk hv
  have KW := fun w1 => rwords_yes k v w1 hk hv
  simp only [← Kr.bx_up] at KW
  generalize Kr.bx k.data.toList v.data.toList = l at *
  have HM := Lib.hid KM; clear KM
  have HW := Lib.hid KW; clear KW
  have HBD := Lib.hid hbd
  have hl6 := hbd.2
  clear hbd
  have hmod : (cu : Int) % 12 + 1 = (r : Int) := by omega
  have HR := Lib.hid hr; clear hr
  have a1 : ¬ (16 : Int) < (k.size : Int) := by omega
  have a2 : ¬ (24 : Int) < (v.size : Int) := by omega
  have hbb : bb r l.length = 0 := by unfold bb; rw [if_neg (by omega)]
  have HBB := Lib.hid hbb; clear hbb
  obtain ⟨n, hnn⟩ : ∃ n, n = (Kr.up l).length := ⟨_, rfl⟩
  have hnl : n = l.length := by rw [hnn, Kr.up_len]
  rw [← hnl] at hn hl6
  have HNN := Lib.hid hnn; clear hnn
  have HNL := Lib.hid hnl; clear hnl
  go_enter Try.func4, Try.ntmps4
  go_wp2_with fail
  with_reducible refine (KN.out _).mono ?_
  rintro e w1 ⟨rfl, F, hA, hb1, hs1⟩
  have HA := Lib.hid hA
  have HB1 := Lib.hid hb1
  obtain ⟨p, hp⟩ : ∃ p, p = w.heap.size + 1 := ⟨_, rfl⟩
  rw [← hp] at HA ⊢
  clear hA hb1 hs1 KN hp
  go_wp2_with fail
  with_reducible refine (HM.out _).mono ?_
  rintro e w2 ⟨q, g, c, rfl, hM, hb2⟩
  have hB2 := HB1.out.trans (hb2.mono HB1.out.size)
  have hap : ¬ F q ∧ ¬ F g := ⟨fun e => by have := (HA.out.foot e).2; have := hM.qB; omega, fun e => by have := (HA.out.foot e).2; have := hM.gB; omega⟩
  have KA := Lib.hid (kalone (most := 50) (HA.out.below hb2 (Nat.le_refl _)) (hM.mono HB1.out.size) hap hB2.size hr1.1 (by omega) HBD.out.1 HBD.out.2 (by omega))
  have HB2 := Lib.hid hB2
  clear hM hb2 hB2 hap HA HB1
  go_wp2_with fail
  with_reducible refine KA.out.mono ?_
  rintro e w3 ⟨rfl, hb3, ⟨F3, hA3⟩, g3, c3, hM3⟩
  have KS := kres_any hM3
  rw [kres_no (Nat.eq_zero_or_pos _ |>.imp id (fun h => by omega)), HBB.out] at KS
  have KS := Lib.hid (show Calls Try.prog 9 #[.pointer (some ⟨q, 0, none⟩)] w3 (Same (.tuple #[.int .u64 0, .bool true]) w3) from KS)
  have HA3 := Lib.hid hA3
  have HB3 := Lib.hid (HB2.out.trans hb3)
  clear hb3 hA3 hM3 KA HB2
  generalize ((cnt l.length (bb r l.length) : Nat) : Int) = ct
  go_wp2_with fail
  with_reducible refine KS.out.mono ?_
  rintro e w4 ⟨rfl, rfl⟩
  go_wp2_with fail
  with_reducible refine (HW.out _).mono ?_
  rintro e w4 ⟨A, c4, rfl, hs4, hb4, -⟩
  have HA4 := Lib.hid (HA3.out.below hb4 (Nat.le_refl _))
  have HS4 := Lib.hid hs4
  have HB4 := Lib.hid (HB3.out.trans (hb4.mono HB3.out.size))
  rw [← HNN.out]
  clear hs4 hb4 KS HA3 HB3
  have KU := used_any HA4.out
  have KF := faults_any HA4.out
  have e2 : Fin r l = ⟨r, 0, 0, []⟩ := by unfold Fin; rw [if_neg (by have := HNL.out; omega)]
  rw [e2] at KU KF
  have KU := Lib.hid (show Calls Try.prog 14 #[.pointer (some ⟨p, 0, none⟩)] w4 (Same (.int .i64 0) w4) from KU)
  have KF := Lib.hid (show Calls Try.prog 15 #[.pointer (some ⟨p, 0, none⟩)] w4 (Same (.int .i64 0) w4) from KF)
  clear e2
  have hgt : decide ((r : Int) < (n : Int)) = true := by simp; omega
  go_wp2_with fail
  with_reducible refine KU.out.mono ?_
  rintro e w5 ⟨rfl, rfl⟩
  go_wp2_with fail
  with_reducible refine KF.out.mono ?_
  rintro e w5 ⟨rfl, rfl⟩
  go_wp2_with fail
  with_reducible refine (AW.out _).mono ?_
  rintro e w5 ⟨rfl, hb5⟩
  have HB5 := Lib.hid (HB4.out.trans (hb5.mono HB4.out.size))
  clear hb5
  go_wp2
  go_ret
  exact ⟨rfl, HB5.out⟩
set_option maxRecDepth 100000 in
set_option maxHeartbeats 4000000 in
theorem makes_some (k v : ByteArray) (cu r : Nat) (w : World) (hk : k.size ≤ 16) (hv : v.size ≤ 24) (hcu : cu < 256) (hr : r = cu % 12 + 1) (hn : (Kr.bx k.data.toList v.data.toList).length ≤ r) :
    Calls Try.prog 4 #[.string k, .string v, .int .u8 (cu : Int)] w (Gives (.bool true) w) := by
  have AW := Lib.hid awake_any
  have hr1 : 1 ≤ r ∧ r ≤ 12 := by omega
  have hbd := Kr.bx_bd (k := k.data.toList) (v := v.data.toList) (by rw [ba_len]; exact hk) (by rw [ba_len]; exact hv)
  have KN := Lib.hid (show ∀ w1, Calls Try.prog 11 #[.int .i64 (r : Int)] w1 (Anew r w1) from fun w1 => new_ok r (by omega) (by omega) w1)
  have KM := fun w1 => knew_any k v w1 hk hv
  have KW := fun w1 => rwords_yes k v w1 hk hv
  simp only [← Kr.bx_up] at KW
  generalize Kr.bx k.data.toList v.data.toList = l at *
  have HM := Lib.hid KM; clear KM
  have HW := Lib.hid KW; clear KW
  have HBD := Lib.hid hbd
  have hl6 := hbd.2
  clear hbd
  have hmod : (cu : Int) % 12 + 1 = (r : Int) := by omega
  have HR := Lib.hid hr; clear hr
  have a1 : ¬ (16 : Int) < (k.size : Int) := by omega
  have a2 : ¬ (24 : Int) < (v.size : Int) := by omega
  have hbb : bb r l.length = 1 := by unfold bb; rw [if_pos (by omega)]
  have HBB := Lib.hid hbb; clear hbb
  obtain ⟨n, hnn⟩ : ∃ n, n = (Kr.up l).length := ⟨_, rfl⟩
  have hnl : n = l.length := by rw [hnn, Kr.up_len]
  rw [← hnl] at hn hl6
  have HNN := Lib.hid hnn; clear hnn
  have HNL := Lib.hid hnl; clear hnl
  go_enter Try.func4, Try.ntmps4
  go_wp2_with fail
  with_reducible refine (KN.out _).mono ?_
  rintro e w1 ⟨rfl, F, hA, hb1, hs1⟩
  have HA := Lib.hid hA
  have HB1 := Lib.hid hb1
  obtain ⟨p, hp⟩ : ∃ p, p = w.heap.size + 1 := ⟨_, rfl⟩
  rw [← hp] at HA ⊢
  clear hA hb1 hs1 KN hp
  go_wp2_with fail
  with_reducible refine (HM.out _).mono ?_
  rintro e w2 ⟨q, g, c, rfl, hM, hb2⟩
  have hB2 := HB1.out.trans (hb2.mono HB1.out.size)
  have hap : ¬ F q ∧ ¬ F g := ⟨fun e => by have := (HA.out.foot e).2; have := hM.qB; omega, fun e => by have := (HA.out.foot e).2; have := hM.gB; omega⟩
  have KA := Lib.hid (kalone (most := 50) (HA.out.below hb2 (Nat.le_refl _)) (hM.mono HB1.out.size) hap hB2.size hr1.1 (by omega) HBD.out.1 HBD.out.2 (by omega))
  have HB2 := Lib.hid hB2
  clear hM hb2 hB2 hap HA HB1
  go_wp2_with fail
  with_reducible refine KA.out.mono ?_
  rintro e w3 ⟨rfl, hb3, ⟨F3, hA3⟩, g3, c3, hM3⟩
  have KS := kres_any hM3
  rw [kres_no (Nat.eq_zero_or_pos _ |>.imp id (fun h => by omega)), HBB.out] at KS
  have KS := Lib.hid (show Calls Try.prog 9 #[.pointer (some ⟨q, 0, none⟩)] w3 (Same (.tuple #[.int .u64 1, .bool true]) w3) from KS)
  have HA3 := Lib.hid hA3
  have HB3 := Lib.hid (HB2.out.trans hb3)
  clear hb3 hA3 hM3 KA HB2
  generalize ((cnt l.length (bb r l.length) : Nat) : Int) = ct
  go_wp2_with fail
  with_reducible refine KS.out.mono ?_
  rintro e w4 ⟨rfl, rfl⟩
  go_wp2_with fail
  with_reducible refine (HW.out _).mono ?_
  rintro e w4 ⟨A, c4, rfl, hs4, hb4, -⟩
  have HA4 := Lib.hid (HA3.out.below hb4 (Nat.le_refl _))
  have HS4 := Lib.hid hs4
  have HB4 := Lib.hid (HB3.out.trans (hb4.mono HB3.out.size))
  rw [← HNN.out]
  clear hs4 hb4 KS HA3 HB3
  obtain ⟨i0, hi, hz0, hz1, hz2⟩ := info_parts info_u64
  have Hz0 := Lib.hid hz0; clear hz0
  have Hz1 := Lib.hid hz1; clear hz1
  have Hz2 := Lib.hid hz2; clear hz2
  have Hi := Lib.hid hi; clear hi
  have e2 : Fin r l = ⟨r, 1, 0, [(1, Kr.up l)]⟩ := by unfold Fin; rw [if_pos (by have := HNL.out; omega)]
  have hA5 := HA4.out
  rw [e2] at hA5
  have HA5 := Lib.hid hA5
  clear e2 hA5 HA4
  have hgt : decide ((r : Int) < (n : Int)) = false := by simp; omega
  have hgt2 : decide (r < n) = false := by simp; omega
  obtain ⟨W, hW⟩ : ∃ W, W = w4.alloc (.cells #[] 26) := ⟨_, rfl⟩
  have hbW : Below w4.heap.size w4 W := by rw [hW]; exact (Below.refl _ w4).alloc (Nat.le_refl _) _
  have hrow : W.ownsRow w4.heap.size 26 1 (.slice (some ⟨w4.heap.size, 0, none⟩) 0 0) 0 (us ((Kr.up l).take 0)) := by
    refine ⟨by simp [us], .inr ⟨w4.heap.size, 0, #[], rfl, Nat.le_refl _, ?_, Nat.le_refl _, by unfold maxLen; omega, rfl, by simp [us]⟩⟩
    rw [hW]; exact heap_alloc_new w4 _
  go_wp2_with fail
  rw [← hW]
  clear hW
  have HBD2 := Lib.hid (show 1 ≤ n by rw [HNL.out]; exact HBD.out.1)
  have HUL := Lib.hid (show (Kr.up l).take n = Kr.up l by rw [HNN.out]; exact List.take_length)
  go_wp2
  go_loopw [16, 17] (fun v i wr => ∃ k : Nat, k ≤ n ∧ i = .int .i64 k ∧ wr.ownsRow w4.heap.size 26 1 v k (us ((Kr.up l).take k)) ∧ Below w4.heap.size w4 wr) (fun _ i _ => n - (intOf i).toNat)
  case atStart => exact ⟨0, by omega, rfl, hrow, hbW⟩
  case round =>
    clear hrow hbW
    obtain ⟨j, hj, rfl, hown, hB⟩ := hrel
    by_cases hlt : j < n
    · have hjl : j < l.length := by rw [← HNL.out]; exact hlt
      have hget : (Kr.up l)[j]? = some ((l.getD j 0 : Nat) : Int) := by rw [List.getElem?_eq_getElem (by rw [Kr.up_len]; exact hjl), Kr.up_get hjl]
      have htk : (Kr.up l).take (j + 1) = (Kr.up l).take j ++ [((l.getD j 0 : Nat) : Int)] := by rw [List.take_add_one, hget]; rfl
      have KL := Lib.hid (show Calls Try.prog 16 #[.pointer (some ⟨p, 0, none⟩), .int .u64 1, .int .i64 (j : Int)] wr (Same (.tuple #[.int .u64 ((l.getD j 0 : Nat) : Int), .int .i64 0]) wr) from load_ok (b := 1) (ws := Kr.up l) (HA5.out.below hB (Nat.le_refl _)) (by omega) rfl j hget)
      have HTK := Lib.hid htk
      have HB := Lib.hid hB
      clear hget htk hjl hB
      generalize l.getD j 0 = y at *
      go_wp2_with fail
      with_reducible refine KL.out.mono ?_
      rintro e w6 ⟨rfl, rfl⟩
      clear KL
      go_wp2_with (at_builtin; refine wpList_append_own _ rfl _ _ 22 rfl w4.heap.size 26 i0 (.int .u64 0) 1 8 Try.underlying22 Hi.out Hz0.out Hz1.out Hz2.out rfl (by decide) _ _ _ rfl (hown.alloc _) ⟨_, 0, none⟩ 1 1 [.int .u64 (y : Int)] rfl rfl ?c1 ?c2 ?c3 ?c4 ?c5 ?_)
      case c1 => exact cell_one_new _ _ _
      case c2 => simp [Value.oneCell']
      case c3 => unfold maxLen; omega
      case c4 => omega
      case c5 => have := HB.out.size; simp; omega
      intro v' w7 hown' hgrow _
      have hB7 : Below w4.heap.size w4 w7 := (HB.out.alloc HB.out.size _).grown hgrow (by have := HB.out.size; simp; omega) (fun j e => (hown.lt j e).1)
      have hown7 : w7.ownsRow w4.heap.size 26 1 v' (j + 1) (us ((Kr.up l).take (j + 1))) := by
        rw [HTK.out]; unfold us; rw [List.map_append]; exact hown'
      clear hown' hgrow hown HB
      go_wp2
      go_roundw
      case rel => exact ⟨j + 1, by omega, by go_num, hown7, hB7⟩
      case measure => simp [intOf]; omega
    · obtain rfl : j = n := by omega
      rw [HUL.out] at hown
      obtain ⟨A7, c7, rfl⟩ : ∃ a c, u16 = Value.slice a j c := by
        rcases hown.2 with ⟨e1, h0⟩ | ⟨g, cap, cur, e1, _⟩
        · have := HBD2.out; omega
        · exact ⟨_, _, e1⟩
      have hsl : Sl .u64 wr wr.heap.size A7 (Kr.up l) := Sl.of_own hown
      have KC := words_same (Kr.up l) A7 A c7 c4 wr (by rw [← HNN.out]; omega) hsl ((HS4.out.below hB).mono hB.size)
      rw [← HNN.out] at KC
      have KC := Lib.hid KC
      have hA7 := HA5.out.below hB (Nat.le_refl _)
      have HA7 := Lib.hid hA7
      have HB7 := Lib.hid (HB4.out.trans (hB.mono HB4.out.size))
      clear hown hsl hB hA7
      have hjj : ((j : Int) == (j : Int)) = true := by simp
      go_wp2_with fail
      with_reducible refine KC.out.mono ?_
      rintro e w8 ⟨rfl, hb8⟩
      have hA8 := HA7.out.below hb8 (Nat.le_refl _)
      have KZ := size_any hA8 (b := 1) (by omega)
      rw [show szOf ⟨r, 1, 0, [(1, Kr.up l)]⟩ 1 = j from HNN.out.symm] at KZ
      have KZ := Lib.hid (show Calls Try.prog 18 #[.pointer (some ⟨p, 0, none⟩), .int .u64 1] w8 (Same (.int .i64 (j : Int)) w8) from KZ)
      have KU := used_any hA8
      rw [show Mm.used [(1, Kr.up l)] = j from HNN.out.symm] at KU
      have KU := Lib.hid KU
      have KF := Lib.hid (show Calls Try.prog 15 #[.pointer (some ⟨p, 0, none⟩)] w8 (Same (.int .i64 0) w8) from faults_any hA8)
      have HB8 := Lib.hid (HB7.out.trans (hb8.mono HB7.out.size))
      clear hb8 hA8 HB7 HA7 KC
      go_wp2_with fail
      with_reducible refine KZ.out.mono ?_
      rintro e w9 ⟨rfl, rfl⟩
      go_wp2_with fail
      with_reducible refine KU.out.mono ?_
      rintro e w9 ⟨rfl, rfl⟩
      go_wp2_with fail
      with_reducible refine KF.out.mono ?_
      rintro e w9 ⟨rfl, rfl⟩
      go_wp2_with fail
      with_reducible refine (AW.out _).mono ?_
      rintro e w9 ⟨rfl, hb9⟩
      have HB9 := Lib.hid (HB8.out.trans (hb9.mono HB8.out.size))
      clear hb9
      go_wp2
      go_ret
      exact ⟨rfl, HB9.out⟩
end Go.Proofs.Ytdhhhkjbpfhkaaa
