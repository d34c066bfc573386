/-
  The walk of MakerActs, answer by answer. By an AI agent.
-/
import Derived.Test.YtdhhhkjbpfhkaaaMkActs2
set_option linter.unusedSimpArgs false
set_option linter.unusedVariables false
namespace Go.Proofs.Ytdhhhkjbpfhkaaa
open Go.RowKit Go.Maps
open Mm (Mem Blk)
open Ac (A)
set_option maxRecDepth 100000 in
set_option maxHeartbeats 4000000 in
theorem acts_in (k v : ByteArray) (gs : List Nat) (ad : Option Addr) (cap : Nat) (w : World) (hk : k.size ≤ 16) (hv : v.size ≤ 24) (hg : gs.length ≤ 20) (hc : gs.length ≤ cap) (hc2 : cap ≤ maxLen) (hnil : ad = none → cap = 0) (hs : Sl .u64 w w.heap.size ad (Kr.up gs)) :
    Calls Try.prog 3 #[.string k, .string v, .slice ad gs.length cap] w (Gives (.bool true) w) := by
  have AW := Lib.hid awake_any
  unfold maxLen at hc2
  have hbd := Kr.bx_bd (k := k.data.toList) (v := v.data.toList) (by rw [ba_len]; exact hk) (by rw [ba_len]; exact hv)
  have KN := knew_any k v w hk hv
  have KM := fun (w1 : World) (n : Nat) (h1 : Sl .u64 w1 w.heap.size ad (Kr.up gs)) (h2 : w.heap.size ≤ w1.heap.size) (h3 : n ≤ gs.length) => make_round (w := w1) (cap := cap) k v hk hv h1 h2 h3 (by omega)
  generalize Kr.bx k.data.toList v.data.toList = l at *
  have KT : ∀ (w1 : World) (q g c j b : Nat) (h : Mst w.heap.size w1 q l g c j b) (v : Nat), Calls Try.prog 8 #[.pointer (some ⟨q, 0, none⟩), .int .u64 (v : Int)] w1 fun e w' => e = .returned (.tuple #[]) ∧ Mst w.heap.size w' q l g c (j + 1) (Kr.blk j b v) ∧ Chg q w1 w' := fun w1 q g c j b h v => ktake_any h hbd.1 (by omega) v
  have HN := Lib.hid KN; clear KN
  have HM := Lib.hid KM; clear KM
  have HT := Lib.hid KT; clear KT
  have HS := Lib.hid hs; clear hs
  obtain ⟨m, hm⟩ : ∃ m, m = gs.length := ⟨_, rfl⟩
  obtain ⟨b, hb⟩ : ∃ b, b = gs.getD 0 0 := ⟨_, rfl⟩
  rw [← hm] at hg hc ⊢
  have HMM := Lib.hid hm; clear hm
  have HBB := Lib.hid hb; clear hb
  have HNIL := Lib.hid hnil; clear hnil
  have a1 : ¬ (16 : Int) < (k.size : Int) := by omega
  have a2 : ¬ (24 : Int) < (v.size : Int) := by omega
  have a3 : ¬ (20 : Int) < (m : Int) := by omega
  clear hbd
  go_enter Try.func3, Try.ntmps3
  go_wp2_with fail
  with_reducible refine HN.out.mono ?_
  rintro e w1 ⟨q, g, c, rfl, hM, hb1⟩
  have hM0 : Mst w.heap.size w1 q l g c 0 b := ⟨hM.qB, hM.gB, hM.ne, by have := hM.own; rw [Kr.act_zero] at this ⊢; exact this, hM.ltg, hM.wds⟩
  clear hM
  go_wp2
  go_loopw [12] (fun i wr => ∃ k : Nat, k ≤ m + 1 ∧ i = .int .i64 k ∧ Mst w.heap.size wr q l g c (min k m) b ∧ Below w.heap.size w wr) (fun i _ => m + 1 - (intOf i).toNat)
  case atStart => exact ⟨0, by omega, rfl, by rw [Nat.zero_min]; exact hM0, hb1⟩
  case round =>
    clear hM0 hb1
    obtain ⟨n, hn, rfl, hM, hB⟩ := hrel
    by_cases hlt : n ≤ m
    · rw [Nat.min_eq_left hlt] at hM
      have hltZ : (n : Int) ≤ (m : Int) := by omega
      have hnc : n ≤ cap := by omega
      have KK := Lib.hid (HM.out wr n (HS.out.below hB) hB.size (by rw [← HMM.out]; exact hlt))
      have HB := Lib.hid hB
      have HMS := Lib.hid hM
      clear hM hB
      obtain ⟨M, hMM⟩ : ∃ M, M = Kr.more l.length n b := ⟨_, rfl⟩
      obtain ⟨X, hX⟩ : ∃ X, X = Kr.act l n b := ⟨_, rfl⟩
      have e1 := KK.out
      rw [← HBB.out, ← hMM, ← hX] at e1
      have KK := Lib.hid e1
      clear e1
      go_wp2_with fail
      with_reducible refine KK.out.mono ?_
      rintro e w2 ⟨bk, rfl, hT2, hb2, hbk⟩
      have hM2 := HMS.out.below hb2
      have HB2 := Lib.hid (HB.out.trans (hb2.mono HB.out.size))
      have HT2 := Lib.hid hT2
      have KR := kres_any hM2
      unfold kres at KR
      rw [← hMM] at KR
      have KA := kact_any hM2
      rw [← hMM, ← hX] at KA
      have HM2 := Lib.hid hM2
      have HX := Lib.hid hX
      clear hT2 hb2 hM2 hX KK HMS HB
      obtain ⟨xk, xb, xc, xo, xn⟩ := X
      have q1 := ne_act xk xb xc xo xn xk xb xc xo xn
      rw [eqB_self] at q1
      cases M
      · obtain rfl := hbk rfl
        have ebb : ((bk : Int) != (bk : Int)) = false := by simp
        rw [if_neg (by decide)] at KR
        have KR := Lib.hid KR
        have KA := Lib.hid KA
        clear hMM hbk
        go_wp2_with fail
        with_reducible refine KR.out.mono ?_
        rintro e w3 ⟨rfl, rfl⟩
        go_wp2_with fail
        with_reducible refine KA.out.mono ?_
        rintro e w3 ⟨rfl, hb3⟩
        obtain ⟨W, hW⟩ : ∃ W, W = w3.alloc (.cells #[.int .i64 xk, .int .u64 (xb : Int), .int .i64 xc, .int .u64 (xo : Int), .int .u64 (xn : Int)] 28) := ⟨_, rfl⟩
        have hbW : Below w3.heap.size w3 W := by rw [hW]; exact (Below.refl _ w3).alloc (Nat.le_refl _) _
        have hb4 := hb3.trans (hbW.mono hb3.size)
        obtain ⟨e0, e1, e2, e3, e4⟩ := mbox w3 ⟨xk, xb, xc, xo, xn⟩
        rw [show boxed w3 ⟨xk, xb, xc, xo, xn⟩ = W from hW.symm] at e0 e1 e2 e3 e4
        dsimp only at e0 e1 e2 e3 e4
        obtain ⟨t2, t3, t4, t5, t6, t7, -⟩ := HT2.out.below hb4
        dsimp only at t3 t4 t5 t6 t7
        have HM3 := Lib.hid (HM2.out.below hb4)
        have HB3 := Lib.hid (HB2.out.trans (hb4.mono HB2.out.size))
        clear hb3 hbW hb4 KR KA HM2 HT2 HB2
        go_wp2_with fail
        rw [← hW]
        clear hW
        generalize w3.heap.size = z at e0 e1 e2 e3 e4 ⊢
        go_quiet (fail)
        obtain ⟨V, hV⟩ : ∃ V, V = W.drewN nq := ⟨_, rfl⟩
        rw [← hV]
        have hbV : Below W.heap.size W V := by rw [hV]; exact below_drewN W nq
        have HM4 := Lib.hid (HM3.out.below hbV)
        have HB4 := Lib.hid (HB3.out.trans (hbV.mono HB3.out.size))
        clear hV hbV HM3 HB3 t2 t3 t4 t5 t6 t7 e0 e1 e2 e3 e4 q1 ebb
        by_cases hlt2 : n < m
        · obtain ⟨b0, off, rfl, hcell⟩ : ∃ b0 off, ad = some ⟨b0, off, none⟩ ∧ V.cell? ⟨b0, off + n, none⟩ = some (.int .u64 ((gs.getD n 0 : Nat) : Int)) := by
            have hl : n < gs.length := by rw [← HMM.out]; exact hlt2
            rcases HS.out.below HB4.out with h0 | ⟨b0, off, e, hb0, hc0⟩
            · have : (Kr.up gs).length = 0 := by rw [h0]; rfl
              rw [Kr.up_len] at this; omega
            · refine ⟨b0, off, e, ?_⟩
              have := hc0 n (by rw [Kr.up_len]; exact hl)
              rwa [Kr.up_get hl] at this
          have KT2 := HT.out V q g c n bk HM4.out (gs.getD n 0)
          have hblk : Kr.blk n bk (gs.getD n 0) = bk := by
            cases n with
            | zero => exact HBB.out.symm
            | succ i => rfl
          rw [hblk] at KT2
          have KT2 := Lib.hid KT2
          have hlt2Z : (n : Int) < (m : Int) := by omega
          clear hblk
          generalize gs.getD n 0 = y at hcell KT2
          go_wp2_with fail
          with_reducible refine KT2.out.mono ?_
          rintro e w6 ⟨rfl, hM6, hc6⟩
          have HM6 := Lib.hid hM6
          have HB6 := Lib.hid (HB4.out.trans (hc6.below (fun k hk => by rw [hk]; exact HM4.out.qB) HB4.out.size))
          clear hM6 hc6 KT2 HB4 HM4
          go_wp2
          go_roundw
          case rel => exact ⟨n + 1, by omega, by go_num, by rw [Nat.min_eq_left (by omega)]; exact HM6.out, HB6.out⟩
          case measure => simp [intOf]; omega
        · have hlt2Z : ¬ (n : Int) < (m : Int) := by omega
          go_wp2
          go_roundw
          case rel => exact ⟨n + 1, by omega, by go_num, by rw [Nat.min_eq_right (by omega), show m = n by omega]; exact HM4.out, HB4.out⟩
          case measure => simp [intOf]; omega
      · rw [if_pos rfl] at KR
        have KR := Lib.hid KR
        have KA := Lib.hid KA
        clear hMM hbk
        go_wp2_with fail
        with_reducible refine KR.out.mono ?_
        rintro e w3 ⟨rfl, rfl⟩
        go_wp2_with fail
        with_reducible refine KA.out.mono ?_
        rintro e w3 ⟨rfl, hb3⟩
        obtain ⟨W, hW⟩ : ∃ W, W = w3.alloc (.cells #[.int .i64 xk, .int .u64 (xb : Int), .int .i64 xc, .int .u64 (xo : Int), .int .u64 (xn : Int)] 28) := ⟨_, rfl⟩
        have hbW : Below w3.heap.size w3 W := by rw [hW]; exact (Below.refl _ w3).alloc (Nat.le_refl _) _
        have hb4 := hb3.trans (hbW.mono hb3.size)
        obtain ⟨e0, e1, e2, e3, e4⟩ := mbox w3 ⟨xk, xb, xc, xo, xn⟩
        rw [show boxed w3 ⟨xk, xb, xc, xo, xn⟩ = W from hW.symm] at e0 e1 e2 e3 e4
        dsimp only at e0 e1 e2 e3 e4
        obtain ⟨t2, t3, t4, t5, t6, t7, -⟩ := HT2.out.below hb4
        dsimp only at t3 t4 t5 t6 t7
        have HM3 := Lib.hid (HM2.out.below hb4)
        have HB3 := Lib.hid (HB2.out.trans (hb4.mono HB2.out.size))
        clear hb3 hbW hb4 KR KA HM2 HT2 HB2
        go_wp2_with fail
        rw [← hW]
        clear hW
        generalize w3.heap.size = z at e0 e1 e2 e3 e4 ⊢
        go_quiet (fail)
        obtain ⟨V, hV⟩ : ∃ V, V = W.drewN nq := ⟨_, rfl⟩
        rw [← hV]
        have hbV : Below W.heap.size W V := by rw [hV]; exact below_drewN W nq
        have HM4 := Lib.hid (HM3.out.below hbV)
        have HB4 := Lib.hid (HB3.out.trans (hbV.mono HB3.out.size))
        clear hV hbV HM3 HB3 t2 t3 t4 t5 t6 t7 e0 e1 e2 e3 e4 q1
        by_cases hlt2 : n < m
        · obtain ⟨b0, off, rfl, hcell⟩ : ∃ b0 off, ad = some ⟨b0, off, none⟩ ∧ V.cell? ⟨b0, off + n, none⟩ = some (.int .u64 ((gs.getD n 0 : Nat) : Int)) := by
            have hl : n < gs.length := by rw [← HMM.out]; exact hlt2
            rcases HS.out.below HB4.out with h0 | ⟨b0, off, e, hb0, hc0⟩
            · have : (Kr.up gs).length = 0 := by rw [h0]; rfl
              rw [Kr.up_len] at this; omega
            · refine ⟨b0, off, e, ?_⟩
              have := hc0 n (by rw [Kr.up_len]; exact hl)
              rwa [Kr.up_get hl] at this
          have KT2 := HT.out V q g c n b HM4.out (gs.getD n 0)
          have hblk : Kr.blk n b (gs.getD n 0) = b := by
            cases n with
            | zero => exact HBB.out.symm
            | succ i => rfl
          rw [hblk] at KT2
          have KT2 := Lib.hid KT2
          have hlt2Z : (n : Int) < (m : Int) := by omega
          clear hblk
          generalize gs.getD n 0 = y at hcell KT2
          go_wp2_with fail
          with_reducible refine KT2.out.mono ?_
          rintro e w6 ⟨rfl, hM6, hc6⟩
          have HM6 := Lib.hid hM6
          have HB6 := Lib.hid (HB4.out.trans (hc6.below (fun k hk => by rw [hk]; exact HM4.out.qB) HB4.out.size))
          clear hM6 hc6 KT2 HB4 HM4
          go_wp2
          go_roundw
          case rel => exact ⟨n + 1, by omega, by go_num, by rw [Nat.min_eq_left (by omega)]; exact HM6.out, HB6.out⟩
          case measure => simp [intOf]; omega
        · have hlt2Z : ¬ (n : Int) < (m : Int) := by omega
          go_wp2
          go_roundw
          case rel => exact ⟨n + 1, by omega, by go_num, by rw [Nat.min_eq_right (by omega), show m = n by omega]; exact HM4.out, HB4.out⟩
          case measure => simp [intOf]; omega
    · obtain rfl : n = m + 1 := by omega
      have HB := Lib.hid hB
      clear hB hM
      go_wp2_with fail
      with_reducible refine (AW.out _).mono ?_
      rintro e w9 ⟨rfl, hb9⟩
      have BF := Lib.hid (HB.out.trans (hb9.mono HB.out.size))
      clear hb9
      go_wp2
      go_ret
      exact ⟨rfl, BF.out⟩
end Go.Proofs.Ytdhhhkjbpfhkaaa
