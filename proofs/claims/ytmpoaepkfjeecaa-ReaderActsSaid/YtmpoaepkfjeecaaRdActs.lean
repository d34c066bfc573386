/-
  The walk of ReaderActs, answer by answer. By an AI agent.
-/
import Derived.Test.YtmpoaepkfjeecaaRdAwake
import Derived.Test.YtmpoaepkfjeecaaRdRead
import Derived.BigQuiet
set_option linter.unusedSimpArgs false
set_option linter.unusedVariables false
namespace Go.Proofs.Ytmpoaepkfjeecaa
open Go.RowKit Go.Maps
open Mm (Mem Blk)
open Ac (A)
theorem getD_take {gs : List Nat} {k : Nat} (hk : k ≠ 0) : (gs.take k).getD 0 0 = gs.getD 0 0 := by
  rw [List.getD_eq_getElem?_getD, List.getD_eq_getElem?_getD, List.getElem?_take, if_pos (by omega)]
theorem sz_take {gs : List Nat} {k : Nat} (hk : k ≠ 0) : Rd.sz (gs.take k) = Rd.sz gs := by unfold Rd.sz; rw [getD_take hk]
theorem more_take {gs : List Nat} {k : Nat} : k < Rd.sz (gs.take k) ↔ k < Rd.sz gs := by
  by_cases hk : k = 0
  · subst hk
    have h1 := Rd.sz_bd (gs.take 0)
    have h2 := Rd.sz_bd gs
    omega
  · rw [sz_take hk]
theorem end_take {gs : List Nat} {k : Nat} (h : ¬ k < Rd.sz gs) : Rd.key (gs.take k) = Rd.key gs ∧ Rd.val (gs.take k) = Rd.val gs := by
  have h1 := Rd.sz_bd gs
  have hk : k ≠ 0 := by omega
  have e : Rd.rd (gs.take k) (Rd.sz (gs.take k)) = Rd.rd gs (Rd.sz gs) := by
    unfold Rd.rd
    rw [Rd.nr_no (Nat.lt_irrefl _), Rd.nr_no (Nat.lt_irrefl _), sz_take hk, List.take_take, Nat.min_eq_left (by omega)]
  unfold Rd.key Rd.val
  rw [e]
  exact ⟨rfl, rfl⟩
theorem up_take (gs : List Nat) (k : Nat) : Kr.up (gs.take k) = (Kr.up gs).take k := by simp [Kr.up]
theorem sl_take {w : World} {B k : Nat} {ad : Option Addr} {gs : List Nat} (h : Sl .u64 w B ad (Kr.up gs)) : Sl .u64 w B ad (Kr.up (gs.take k)) := by
  rw [up_take]
  rcases h with h | ⟨b, off, e, hb, hc⟩
  · exact .inl (by rw [h]; simp)
  · refine .inr ⟨b, off, e, hb, fun j hj => ?_⟩
    rw [List.length_take] at hj
    rw [hc j (by omega), List.getElem_take]
/-- What Read has left on its tape. -/
structure Tape2 (w : World) (t : Nat) (x : A) (m : Bool) : Prop where
  c2 : w.cell? ⟨t, 2, none⟩ = some (.bool m)
  c3 : w.cell? ⟨t, 3, none⟩ = some (.int .i64 x.k)
  c4 : w.cell? ⟨t, 4, none⟩ = some (.int .u64 (x.b : Int))
  c5 : w.cell? ⟨t, 5, none⟩ = some (.int .i64 x.c)
  c6 : w.cell? ⟨t, 6, none⟩ = some (.int .u64 (x.o : Int))
  c7 : w.cell? ⟨t, 7, none⟩ = some (.int .u64 (x.n : Int))
  lt : t < w.heap.size
theorem Tape2.below {w w' : World} {t : Nat} {x : A} {m : Bool} (h : Tape2 w t x m) (hb : Below w.heap.size w w') : Tape2 w' t x m :=
  ⟨(hb.cell (p := ⟨t, 2, none⟩) h.lt).trans h.c2, (hb.cell (p := ⟨t, 3, none⟩) h.lt).trans h.c3, (hb.cell (p := ⟨t, 4, none⟩) h.lt).trans h.c4, (hb.cell (p := ⟨t, 5, none⟩) h.lt).trans h.c5, (hb.cell (p := ⟨t, 6, none⟩) h.lt).trans h.c6, (hb.cell (p := ⟨t, 7, none⟩) h.lt).trans h.c7, Nat.lt_of_lt_of_le h.lt hb.size⟩
/-- Read, on a new tape that holds the first k answers. -/
theorem read_round {B : Nat} {w : World} {cap k : Nat} {ad : Option Addr} {gs : List Nat} (b : Nat) (hs : Sl .u64 w B ad (Kr.up gs)) (hB : B ≤ w.heap.size) (hk : k ≤ gs.length) (hw : ∀ x ∈ gs, x < 18446744073709551616) (hm : gs.length ≤ 1000) :
    Calls Try.prog 7 #[.pointer (some ⟨w.heap.size, 0, none⟩), .int .u64 (b : Int)] (w.alloc (.cells #[.slice ad (k : Nat) cap, .int .i64 0, .bool false, .int .i64 0, .int .u64 0, .int .i64 0, .int .u64 0, .int .u64 0] 31))
      fun e w' => ∃ ka va : List UInt8, e = .returned (.agg #[.string ⟨ka.toArray⟩, .string ⟨va.toArray⟩]) ∧ Tape2 w' w.heap.size (Rd.act b gs k) (decide (k < Rd.sz gs)) ∧ Below w.heap.size w w' ∧ (decide (k < Rd.sz gs) = false → ka = Rd.key gs ∧ va = Rd.val gs) := by
  have hlen : (gs.take k).length = k := by rw [List.length_take]; omega
  have hb : Below w.heap.size w (w.alloc (.cells #[.slice ad k cap, .int .i64 0, .bool false, .int .i64 0, .int .u64 0, .int .i64 0, .int .u64 0, .int .u64 0] 31)) := (Below.refl _ w).alloc (Nat.le_refl _) _
  have hts : Ts w.heap.size (w.alloc (.cells #[.slice ad k cap, .int .i64 0, .bool false, .int .i64 0, .int .u64 0, .int .i64 0, .int .u64 0, .int .u64 0] 31)) w.heap.size ad (gs.take k) cap 0 ⟨1, b, ((gs.take k).length : Int), 0, 0⟩ := by
    refine ⟨Nat.le_refl _, ?_, ((sl_take hs).mono hB).below hb⟩
    rw [Nat.zero_min, decide_eq_false (by omega), if_neg (by omega), hlen]
    exact heap_alloc_new w _
  refine (rdread_any b hts (fun x hx => hw x (List.mem_of_mem_take hx)) (by omega)).mono ?_
  rintro e w' ⟨ka, va, m, rfl, hkv, hT, hmm, hb'⟩
  have ho := hT.own
  rw [hlen] at ho hmm hkv
  rw [more_take] at hmm
  have e1 : decide (k < m) = decide (k < Rd.sz gs) := by
    by_cases h : k < m
    · rw [decide_eq_true h, decide_eq_true (hmm.1 h)]
    · rw [decide_eq_false h, decide_eq_false (fun e => h (hmm.2 e))]
  have e2 : (if k < m then (⟨1, b, (k : Int), 0, 0⟩ : A) else ⟨0, 0, 0, 0, 0⟩) = Rd.act b gs k := by
    by_cases h : k < m
    · rw [if_pos h, Rd.act_yes (hmm.1 h)]
    · rw [if_neg h, Rd.act_no (fun e => h (hmm.2 e))]
  rw [e1, e2] at ho
  refine ⟨ka, va, rfl, ⟨ho.c2, ho.c3, ho.c4, ho.c5, ho.c6, ho.c7, ho.lt⟩, hb.trans hb', fun h => ?_⟩
  have h := of_decide_eq_false h
  have hz := hkv (by have := Rd.sz_bd gs; rw [sz_take (by omega)]; omega)
  rw [(end_take h).1, (end_take h).2] at hz
  exact hz
set_option maxHeartbeats 1000000 in
theorem acts_out (b : Int) (A : Option Addr) (len c : Nat) (w : World) (hl : len ≤ maxLen) (h : 20 < len) :
    Calls Try.prog 3 #[.int .u64 b, .slice A len c] w (Gives (.bool true) w) := by
  unfold maxLen at hl
  have AW := Lib.hid awake_any
  go_enter Try.func3, Try.ntmps3
  go_wp2_with fail
  with_reducible refine (AW.out _).mono ?_
  rintro e w' ⟨rfl, hb⟩
  go_wp2
  go_ret
  exact ⟨rfl, hb⟩
/-- Where a tape's answer lies. -/
theorem sl_at {w : World} {B n : Nat} {ad : Option Addr} {gs : List Nat} (h : Sl .u64 w B ad (Kr.up gs)) (hn : n < gs.length) : ∃ b0 off, ad = some ⟨b0, off, none⟩ ∧ w.cell? ⟨b0, off + n, none⟩ = some (.int .u64 ((gs.getD n 0 : Nat) : Int)) := by
  rcases h with h0 | ⟨b0, off, e, hb0, hc0⟩
  · have : (Kr.up gs).length = 0 := by rw [h0]; rfl
    rw [Kr.up_len] at this; omega
  · refine ⟨b0, off, e, ?_⟩
    have := hc0 n (by rw [Kr.up_len]; exact hn)
    rwa [Kr.up_get hn] at this
set_option maxRecDepth 100000 in
set_option maxHeartbeats 4000000 in
theorem acts_in (b : Nat) (gs : List Nat) (ad : Option Addr) (cap : Nat) (w : World) (hw : ∀ x ∈ gs, x < 18446744073709551616) (hg : gs.length ≤ 20) (hc : gs.length ≤ cap) (hc2 : cap ≤ maxLen) (hnil : ad = none → cap = 0) (hs : Sl .u64 w w.heap.size ad (Kr.up gs)) :
    Calls Try.prog 3 #[.int .u64 (b : Int), .slice ad gs.length cap] w (Gives (.bool true) w) := by
  have AW := Lib.hid awake_any
  unfold maxLen at hc2
  obtain ⟨B, hB⟩ : ∃ B, B = w.heap.size := ⟨_, rfl⟩
  have KN : Hid (Calls Try.prog 6 #[.int .u64 (b : Int)] w fun e w' => e = .returned (.pointer (some ⟨B, 0, none⟩)) ∧ Rst B w' B b gs 0 none 0 ∧ Below B w w') := Lib.hid (by
    subst hB
    refine (rnew_any b w).mono ?_
    rintro e w' ⟨rfl, h1, h2⟩
    exact ⟨rfl, rst_new gs h1, h2⟩)
  have KM := fun (w1 : World) (n : Nat) (h1 : Sl .u64 w1 B ad (Kr.up gs)) (h2 : B ≤ w1.heap.size) (h3 : n ≤ gs.length) => read_round (w := w1) (cap := cap) b h1 h2 h3 hw (by omega)
  have KT : ∀ (W : World) (j : Nat) (a : Option Addr) (c : Nat), Rst B W B b gs j a c → j < gs.length → B ≤ W.heap.size → Calls Try.prog 10 #[.pointer (some ⟨B, 0, none⟩), .int .u64 ((gs.getD j 0 : Nat) : Int)] W fun e w' => e = .returned (.tuple #[]) ∧ ∃ ad' c', Rst B w' B b gs (j + 1) ad' c' ∧ Tn (Rst.F B gs j a c) (Rst.F B gs (j + 1) ad' c') W w' := fun W j a c h hj hB => rtake_any h hw hj hB
  have KA : ∀ (W : World) (j : Nat) (a : Option Addr) (c : Nat), Rst B W B b gs j a c → Calls Try.prog 9 #[.pointer (some ⟨B, 0, none⟩)] W (Gives (.tuple #[av (Rd.act b gs j), .bool (decide (j < Rd.sz gs))]) W) := fun W j a c h => rdact_any h
  have KR : ∀ (W : World) (j : Nat) (a : Option Addr) (c : Nat), Rst B W B b gs j a c → Calls Try.prog 8 #[.pointer (some ⟨B, 0, none⟩)] W (Gives (rres gs j) W) := fun W j a c h => rres_any h hw
  have HM := Lib.hid KM; clear KM
  have HT := Lib.hid KT; clear KT
  have HA := Lib.hid KA; clear KA
  have HR := Lib.hid KR; clear KR
  rw [← hB] at hs
  have HS := Lib.hid hs; clear hs
  obtain ⟨m, hm⟩ : ∃ m, m = gs.length := ⟨_, rfl⟩
  rw [← hm] at hg hc ⊢
  have HMM := Lib.hid hm; clear hm
  have HNIL := Lib.hid hnil; clear hnil
  have HBW := Lib.hid hB
  clear hw hB
  have a3 : ¬ (20 : Int) < (m : Int) := by omega
  go_enter Try.func3, Try.ntmps3
  go_wp2_with fail
  with_reducible refine KN.out.mono ?_
  rintro e w1 ⟨rfl, hM, hb1⟩
  clear KN
  go_wp2
  go_loopw [6] (fun i wr => ∃ k : Nat, k ≤ m + 1 ∧ i = .int .i64 k ∧ (∃ a c, Rst B wr B b gs (min k m) a c) ∧ Below B w wr) (fun i _ => m + 1 - (intOf i).toNat)
  case atStart => exact ⟨0, by omega, rfl, ⟨none, 0, by rw [Nat.zero_min]; exact hM⟩, hb1⟩
  case round =>
    clear hM hb1
    obtain ⟨n, hn, rfl, ⟨a0, c0, hM⟩, hBb⟩ := hrel
    by_cases hlt : n ≤ m
    · rw [Nat.min_eq_left hlt] at hM
      have hltZ : (n : Int) ≤ (m : Int) := by omega
      have hnc : n ≤ cap := by omega
      have hsz := hBb.size
      have hBs : B ≤ wr.heap.size := by have := HBW.out; omega
      have KK := Lib.hid (HM.out wr n (HS.out.below hBb) hBs (by rw [← HMM.out]; exact hlt))
      have HB := Lib.hid hBb
      have HMS := Lib.hid hM
      have HBS := Lib.hid hBs
      clear hM hBb hsz hBs
      obtain ⟨M, hMM⟩ : ∃ M, M = decide (n < Rd.sz gs) := ⟨_, rfl⟩
      obtain ⟨X, hX⟩ : ∃ X, X = Rd.act b gs n := ⟨_, rfl⟩
      have e1 := KK.out
      rw [← hMM, ← hX] at e1
      have KK := Lib.hid e1
      have HMB := Lib.hid hMM
      have HXX := Lib.hid hX
      clear e1 hX hMM
      go_wp2_with fail
      with_reducible refine KK.out.mono ?_
      rintro e w2 ⟨ka, va, rfl, hT2, hb2, hkv⟩
      obtain ⟨W2, hW2⟩ : ∃ W2, W2 = w2.alloc (.cells #[.string ⟨ka.toArray⟩, .string ⟨va.toArray⟩] 33) := ⟨_, rfl⟩
      have hbw2 : Below w2.heap.size w2 W2 := by rw [hW2]; exact (Below.refl _ w2).alloc (Nat.le_refl _) _
      have hq2 : W2.heap[w2.heap.size]? = some (.cells #[.string ⟨ka.toArray⟩, .string ⟨va.toArray⟩] 33 (0, 0)) := by rw [hW2]; exact heap_alloc_new w2 _
      have hb2W := hb2.trans (hbw2.mono hb2.size)
      have hM2 := HMS.out.below hb2W
      have KR := Lib.hid (HR.out _ _ _ _ hM2)
      have HM2 := Lib.hid hM2
      have HT2 := Lib.hid (hT2.below hbw2)
      have HB2 := Lib.hid (HB.out.trans (hb2W.mono HBS.out))
      have HQ2 := Lib.hid hq2
      have HKV := Lib.hid hkv
      clear hT2 hb2 hbw2 hb2W hM2 hq2 KK HMS HB HBS hkv
      go_wp2_with fail
      rw [← hW2]
      clear hW2
      generalize w2.heap.size = z2 at HQ2 ⊢
      with_reducible refine KR.out.mono ?_
      rintro e w3 ⟨rfl, hb3⟩
      have hM3 := HM2.out.below hb3
      have HT3 := Lib.hid (HT2.out.below hb3)
      have HQ3 := Lib.hid ((hb3.block _ (Array.getElem?_eq_some_iff.1 HQ2.out).1).trans HQ2.out)
      have HB3 := Lib.hid (HB2.out.trans (hb3.mono (by have := HM2.out.own.lt; have := HM2.out.qB; omega)))
      have HM3 := Lib.hid hM3
      clear hb3 hM3 HT2 HQ2 HB2 HM2 KR
      obtain ⟨p1, p2, hp⟩ : ∃ p1 p2 : ByteArray, rres gs n = .tuple #[.agg #[.string p1, .string p2], .bool (!M)] ∧ (M = true → p1 = ⟨#[]⟩ ∧ p2 = ⟨#[]⟩) ∧ (M = false → p1 = ⟨ka.toArray⟩ ∧ p2 = ⟨va.toArray⟩) := by
        unfold rres
        rw [HMB.out]
        by_cases h : n < Rd.sz gs
        · rw [if_pos h, decide_eq_true h]
          exact ⟨⟨#[]⟩, ⟨#[]⟩, rfl, fun _ => ⟨rfl, rfl⟩, fun e => nomatch e⟩
        · rw [if_neg h, decide_eq_false h]
          refine ⟨⟨(Rd.key gs).toArray⟩, ⟨(Rd.val gs).toArray⟩, rfl, (fun e => nomatch e), fun _ => ?_⟩
          obtain ⟨h1, h2⟩ := HKV.out (by rw [HMB.out]; exact decide_eq_false h)
          rw [h1, h2]; exact ⟨rfl, rfl⟩
      rw [hp.1]
      have hp1 := hp.2.1
      have hp2 := hp.2.2
      clear hp HKV
      obtain ⟨W3, hW3⟩ : ∃ W3, W3 = w3.alloc (.cells #[.string p1, .string p2] 33) := ⟨_, rfl⟩
      have hbw3 : Below w3.heap.size w3 W3 := by rw [hW3]; exact (Below.refl _ w3).alloc (Nat.le_refl _) _
      have hq3 : W3.heap[w3.heap.size]? = some (.cells #[.string p1, .string p2] 33 (0, 0)) := by rw [hW3]; exact heap_alloc_new w3 _
      have hM4 := HM3.out.below hbw3
      have KA := HA.out _ _ _ _ hM4
      rw [← HMB.out, ← HXX.out] at KA
      obtain ⟨xk, xb, xc, xo, xn⟩ := X
      have KA := Lib.hid KA
      have HM4 := Lib.hid hM4
      have HT4 := Lib.hid (HT3.out.below hbw3)
      have HB4 := Lib.hid (HB3.out.trans (hbw3.mono (by have := HM3.out.own.lt; have := HM3.out.qB; omega)))
      have HQ4 := Lib.hid ((hbw3.block _ (Array.getElem?_eq_some_iff.1 HQ3.out).1).trans HQ3.out)
      have HP4 := Lib.hid hq3
      have H1 := Lib.hid hp1
      have H2 := Lib.hid hp2
      clear hbw3 hq3 hM4 HT3 HB3 HM3 HQ3 hp1 hp2
      go_wp2_with fail
      rw [← hW3]
      clear hW3
      generalize w3.heap.size = z3 at HP4 ⊢
      with_reducible refine KA.out.mono ?_
      rintro e w5 ⟨rfl, hb5⟩
      obtain ⟨W, hW⟩ : ∃ W, W = w5.alloc (.cells #[.int .i64 xk, .int .u64 (xb : Int), .int .i64 xc, .int .u64 (xo : Int), .int .u64 (xn : Int)] 29) := ⟨_, rfl⟩
      have hbW : Below w5.heap.size w5 W := by rw [hW]; exact (Below.refl _ w5).alloc (Nat.le_refl _) _
      have hb4 := hb5.trans (hbW.mono hb5.size)
      obtain ⟨e0, e1, e2, e3, e4⟩ := mbox w5 ⟨xk, xb, xc, xo, xn⟩
      rw [show boxed w5 ⟨xk, xb, xc, xo, xn⟩ = W from hW.symm] at e0 e1 e2 e3 e4
      dsimp only at e0 e1 e2 e3 e4
      obtain ⟨t2, t3, t4, t5, t6, t7, -⟩ := HT4.out.below hb4
      dsimp only at t3 t4 t5 t6 t7
      have hQ := (hb4.block _ (Array.getElem?_eq_some_iff.1 HQ4.out).1).trans HQ4.out
      have hP := (hb4.block _ (Array.getElem?_eq_some_iff.1 HP4.out).1).trans HP4.out
      have y0 : W.cell? ⟨z2, 0, none⟩ = some (.string ⟨ka.toArray⟩) := by simp [World.cell?, hQ]
      have y1 : W.cell? ⟨z2, 1, none⟩ = some (.string ⟨va.toArray⟩) := by simp [World.cell?, hQ]
      have x0 : W.cell? ⟨z3, 0, none⟩ = some (.string p1) := by simp [World.cell?, hP]
      have x1 : W.cell? ⟨z3, 1, none⟩ = some (.string p2) := by simp [World.cell?, hP]
      have HM5 := Lib.hid (HM4.out.below hb4)
      have HB5 := Lib.hid (HB4.out.trans (hb4.mono (by have := HM4.out.own.lt; have := HM4.out.qB; omega)))
      clear hb5 hbW hb4 KA HM4 HT4 HB4 HQ4 HP4 hQ hP
      go_wp2_with fail
      rw [← hW]
      clear hW
      generalize w5.heap.size = z at e0 e1 e2 e3 e4 ⊢
      have q1 := ne_act xk xb xc xo xn xk xb xc xo xn
      rw [eqB_self] at q1
      cases M
      all_goals
        first
          | (obtain ⟨rfl, rfl⟩ := H1.out rfl; have q2 := ne_pr ⟨#[]⟩ ⟨#[]⟩)
          | (obtain ⟨rfl, rfl⟩ := H2.out rfl; have q2 := ne_pr ⟨ka.toArray⟩ ⟨va.toArray⟩)
        clear H1 H2 HMB HXX
        go_quiet (fail)
        obtain ⟨V, hV⟩ : ∃ V, V = W.drewN nq := ⟨_, rfl⟩
        rw [← hV]
        have hbV : Below W.heap.size W V := by rw [hV]; exact below_drewN W nq
        have HM6 := Lib.hid (HM5.out.below hbV)
        have HB6 := Lib.hid (HB5.out.trans (hbV.mono (by have := HM5.out.own.lt; have := HM5.out.qB; omega)))
        clear hV hbV HM5 HB5 t2 t3 t4 t5 t6 t7 e0 e1 e2 e3 e4 q1 q2 x0 x1 y0 y1
        by_cases hlt2 : n < m
        · obtain ⟨b0, off, rfl, hcell⟩ := sl_at (HS.out.below HB6.out) (show n < gs.length by rw [← HMM.out]; exact hlt2)
          have KT2 := Lib.hid (HT.out V n a0 c0 HM6.out (by rw [← HMM.out]; exact hlt2) (by have := HM6.out.own.lt; have := HM6.out.qB; omega))
          have hlt2Z : (n : Int) < (m : Int) := by omega
          generalize gs.getD n 0 = y at hcell KT2
          go_wp2_with fail
          with_reducible refine KT2.out.mono ?_
          rintro e w6 ⟨rfl, a1, c1, hM6, ht6⟩
          have HM7 := Lib.hid hM6
          have HB7 := Lib.hid (HB6.out.trans (ht6.below (fun k hk => (HM6.out.foot hk).1) (by have := HM6.out.own.lt; have := HM6.out.qB; omega)))
          clear hM6 ht6 KT2 HB6 HM6
          go_wp2
          go_roundw
          case rel => exact ⟨n + 1, by omega, by go_num, ⟨a1, c1, by rw [Nat.min_eq_left (by omega)]; exact HM7.out⟩, HB7.out⟩
          case measure => simp [intOf]; omega
        · have hlt2Z : ¬ (n : Int) < (m : Int) := by omega
          go_wp2
          go_roundw
          case rel => exact ⟨n + 1, by omega, by go_num, ⟨a0, c0, by rw [Nat.min_eq_right (by omega), show m = n by omega]; exact HM6.out⟩, HB6.out⟩
          case measure => simp [intOf]; omega
    · obtain rfl : n = m + 1 := by omega
      have HB := Lib.hid hBb
      clear hBb hM
      go_wp2_with fail
      with_reducible refine (AW.out _).mono ?_
      rintro e w9 ⟨rfl, hb9⟩
      have BF := Lib.hid ((show Below w.heap.size w wr from HBW.out ▸ HB.out).trans (hb9.mono (by have := HB.out.size; exact this)))
      clear hb9
      go_wp2
      go_ret
      exact ⟨rfl, BF.out⟩
end Go.Proofs.Ytmpoaepkfjeecaa
