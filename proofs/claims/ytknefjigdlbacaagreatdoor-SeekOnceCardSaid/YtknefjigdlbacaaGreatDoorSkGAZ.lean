/-
  The walks of a seek's Take where a slot was loaded or laid into, where the shield or the reader goes on; Take in all. By an AI agent.
-/
import Derived.Test.YtknefjigdlbacaaGreatDoorSkGAY
set_option linter.unusedSimpArgs false
set_option linter.unusedVariables false
namespace Go.Proofs.YtknefjigdlbacaaGreatDoor
open Go.RowKit Go.Maps
open Ac (A)
/-- Led on behind a place, or not: the seek's own cells have changed, there may be a new crowd. -/
def Afts (F : Nat → Prop) (q : Nat) (c : Sk.C) (x : Sk.S × Bool) (w : World) (e : Ending) (w' : World) (R : Value → Value → World → Prop) : Prop := e = .returned (.tuple #[]) ∧ ∃ vc vs vr, Kb w' q c (Sk.aft c x) vc vs vr ∧ Tn F F w w' ∧ (x.2 = true → (Sk.aft c x).p = 2 → (Sk.aft c x).cs = [] ∧ Cq w.heap.size vc w' c) ∧ (x.2 = false → R vs vr w')
/-- What a state that goes on behind its place may be. -/
def GoesK (x : Sk.S × Bool) : Prop := x.2 = true → x.1.w < 18446744073709551616 ∧ x.1.n ≤ 1000 ∧ x.1.i ≤ 100
theorem fz_new {w : World} {q : Nat} {c : Sk.C} {s : Sk.S} {vc vs vr : Value} (h : Kb w q c s vc vs vr) : Kb (w.setCell ⟨q, 14, none⟩ (.int .i64 ((s.i + 1 : Nat) : Int))) q c { s with i := s.i + 1 } vc vs vr := h.st 14 _ rfl
set_option maxRecDepth 100000 in
set_option maxHeartbeats 2000000 in
theorem ktake_5 {w : World} {q : Nat} {c : Sk.C} {s : Sk.S} {vc vs vr : Value} (h : Kb w q c s vc vs vr) (got : Nat) (hp : s.p = 5) (ho : Sk.Ok c) (hbd : Bd w) (hrt : Dk.right c.d c.th c.nn c.kp = true) (g0 : -9223372036854775808 ≤ s.g) (g1 : s.g ≤ 9223372036854775807) (hi : s.i ≤ 8) (hsc : 0 ≤ Sk.scell c s) (hv : got < 18446744073709551616) (hgo : GoesK (Sk.told c s got)) :
    Calls Tryz.prog 10 #[.pointer (some ⟨q, 0, none⟩), .int .u64 (got : Int)] w (fun e w' => Afts (fun k => k = q) q c (Sk.told c s got) w e w' (fun vs' vr' w' => ((Sk.told c s got).1.p = 7 → Sq w.heap.size vs' w' c (Sk.told c s got).1) ∧ ((Sk.told c s got).1.p = 8 → Rq w.heap.size vr' w' c (Sk.told c s got).1 none 0))) := by
  have c0 := h.c0
  rw [hp] at c0
  rw [show ((5 : Nat) : Int) = 5 from rfl] at c0
  have K1 := Lib.hid (ktold_any h (by omega) ho.lay hbd hrt ho.th g0 g1 hi hsc got hv)
  have HT := Lib.hid ho.h
  have HG := Lib.hid hgo
  generalize Sk.told c s got = x at *
  clear h hp ho hbd hrt g0 g1 hi hsc hv hgo
  go_enter Tryz.func10, Tryz.ntmps10
  refine scope_hops 1 ?_
  go_wp2_with fail
  with_reducible refine K1.out.mono ?_
  rintro e w2 ⟨rfl, vs2, vr2, h1, h2, h3⟩
  have KB := Lib.hid h1; have KC := Lib.hid h2; have KR := Lib.hid h3
  clear h1 h2 h3 K1
  obtain ⟨y, t⟩ := x
  cases t with
  | false =>
    go_wp2
    rw [Hop.ret]
    refine bodyPost_ret (results_none rfl _ _ _) rfl ?_
    exact ⟨rfl, _, _, _, KB.out, KC.out, fun e => (by cases e), fun _ => KR.out⟩
  | true =>
    obtain ⟨gw, gn, gi⟩ := HG.out rfl
    replace gw : y.w < 18446744073709551616 := gw
    replace gn : y.n ≤ 1000 := gn
    replace gi : y.i ≤ 100 := gi
    have c14 := KB.out.c14
    have f14 := KB.out.fz 14
    have hw14 : wrap64 ((y.i : Int) + 1) = (y.i : Int) + 1 := by rw [wrap64_small (by omega) (by omega)]
    have h2 := fz_new KB.out
    rw [show ((y.i + 1 : Nat) : Int) = (y.i : Int) + 1 by omega] at h2
    obtain ⟨W, hW⟩ : ∃ W, W = w2.setCell ⟨q, 14, none⟩ (.int .i64 ((y.i : Int) + 1)) := ⟨_, rfl⟩
    rw [← hW] at h2
    have HZ := Lib.hid (show W.heap.size = w2.heap.size by rw [hW, World.size_setCell])
    have HC := Lib.hid (show Chg q w2 W by rw [hW]; exact (Chg.refl q w2).set 14 _ KB.out.lt)
    have KG := Lib.hid (kgoOn_any h2 HT.out gw gn)
    have HW := Lib.hid hW
    clear hW h2 gw gn gi c0
    go_wp2
    apply wp_label
    go_wp2_with fail
    rw [show w2.setCell ⟨q, 14, none⟩ (.int .i64 ((y.i : Int) + 1)) = W from HW.out.symm]
    with_reducible refine KG.out.mono ?_
    rintro e w3 ⟨rfl, vc2, h1, h2, h3⟩
    have H1 := Lib.hid h1; have H2 := Lib.hid (HC.out.trans h2); have H3 := Lib.hid h3; clear h1 h2 h3
    go_wp2
    rw [Hop.normal]
    refine bodyPost_end (results_none rfl _ _ _) rfl ?_
    refine ⟨rfl, vc2, _, _, H1.out, KC.out.trans (H2.out.wide (fun k e => e) (fun k e => .inl e)), fun _ e => ⟨(H3.out e).1, ?_⟩, fun e => (by cases e)⟩
    obtain ⟨qc, e1, e2, e3⟩ := (H3.out e).2
    refine ⟨qc, e1, ?_, e3⟩
    have := KC.out.size
    have := HZ.out
    omega
set_option maxRecDepth 100000 in
set_option maxHeartbeats 2000000 in
theorem ktake_6 {w : World} {q : Nat} {c : Sk.C} {s : Sk.S} {vc vs vr : Value} (h : Kb w q c s vc vs vr) (got : Nat) (hp : s.p = 6) (ho : Sk.Ok c) (hbd : Bd w) (hrt : Dk.right c.d c.th c.nn c.kp = true) (g0 : -9223372036854775808 ≤ s.g) (g1 : s.g ≤ 9223372036854775807) (hi : s.i ≤ 8) (hsc : 0 ≤ Sk.scell c s) (hv : got < 18446744073709551616) (hgo : GoesK (Sk.told c s got)) :
    Calls Tryz.prog 10 #[.pointer (some ⟨q, 0, none⟩), .int .u64 (got : Int)] w (fun e w' => Afts (fun k => k = q) q c (Sk.told c s got) w e w' (fun vs' vr' w' => ((Sk.told c s got).1.p = 7 → Sq w.heap.size vs' w' c (Sk.told c s got).1) ∧ ((Sk.told c s got).1.p = 8 → Rq w.heap.size vr' w' c (Sk.told c s got).1 none 0))) := by
  have c0 := h.c0
  rw [hp] at c0
  rw [show ((6 : Nat) : Int) = 6 from rfl] at c0
  have K1 := Lib.hid (ktold_any h (by omega) ho.lay hbd hrt ho.th g0 g1 hi hsc got hv)
  have HT := Lib.hid ho.h
  have HG := Lib.hid hgo
  generalize Sk.told c s got = x at *
  clear h hp ho hbd hrt g0 g1 hi hsc hv hgo
  go_enter Tryz.func10, Tryz.ntmps10
  refine scope_hops 1 ?_
  go_wp2_with fail
  with_reducible refine K1.out.mono ?_
  rintro e w2 ⟨rfl, vs2, vr2, h1, h2, h3⟩
  have KB := Lib.hid h1; have KC := Lib.hid h2; have KR := Lib.hid h3
  clear h1 h2 h3 K1
  obtain ⟨y, t⟩ := x
  cases t with
  | false =>
    go_wp2
    rw [Hop.ret]
    refine bodyPost_ret (results_none rfl _ _ _) rfl ?_
    exact ⟨rfl, _, _, _, KB.out, KC.out, fun e => (by cases e), fun _ => KR.out⟩
  | true =>
    obtain ⟨gw, gn, gi⟩ := HG.out rfl
    replace gw : y.w < 18446744073709551616 := gw
    replace gn : y.n ≤ 1000 := gn
    replace gi : y.i ≤ 100 := gi
    have c14 := KB.out.c14
    have f14 := KB.out.fz 14
    have hw14 : wrap64 ((y.i : Int) + 1) = (y.i : Int) + 1 := by rw [wrap64_small (by omega) (by omega)]
    have h2 := fz_new KB.out
    rw [show ((y.i + 1 : Nat) : Int) = (y.i : Int) + 1 by omega] at h2
    obtain ⟨W, hW⟩ : ∃ W, W = w2.setCell ⟨q, 14, none⟩ (.int .i64 ((y.i : Int) + 1)) := ⟨_, rfl⟩
    rw [← hW] at h2
    have HZ := Lib.hid (show W.heap.size = w2.heap.size by rw [hW, World.size_setCell])
    have HC := Lib.hid (show Chg q w2 W by rw [hW]; exact (Chg.refl q w2).set 14 _ KB.out.lt)
    have KG := Lib.hid (kgoOn_any h2 HT.out gw gn)
    have HW := Lib.hid hW
    clear hW h2 gw gn gi c0
    go_wp2
    apply wp_label
    go_wp2_with fail
    rw [show w2.setCell ⟨q, 14, none⟩ (.int .i64 ((y.i : Int) + 1)) = W from HW.out.symm]
    with_reducible refine KG.out.mono ?_
    rintro e w3 ⟨rfl, vc2, h1, h2, h3⟩
    have H1 := Lib.hid h1; have H2 := Lib.hid (HC.out.trans h2); have H3 := Lib.hid h3; clear h1 h2 h3
    go_wp2
    rw [Hop.normal]
    refine bodyPost_end (results_none rfl _ _ _) rfl ?_
    refine ⟨rfl, vc2, _, _, H1.out, KC.out.trans (H2.out.wide (fun k e => e) (fun k e => .inl e)), fun _ e => ⟨(H3.out e).1, ?_⟩, fun e => (by cases e)⟩
    obtain ⟨qc, e1, e2, e3⟩ := (H3.out e).2
    refine ⟨qc, e1, ?_, e3⟩
    have := KC.out.size
    have := HZ.out
    omega
set_option maxRecDepth 100000 in
set_option maxHeartbeats 2000000 in
theorem ktake_7 {w : World} {q qs : Nat} {c : Sk.C} {s : Sk.S} {vc vr : Value} (h : Kb w q c s vc (.pointer (some ⟨qs, 0, none⟩)) vr) (got : Nat) (hp : s.p = 7) (ho : Sk.Ok c) (hs : Sb w qs s.sh c.d (3 + 2 * (c.th : Int)) c.b (Sk.scell c s)) (hsp : s.sh.p ≤ 3) (hsr : s.sh.r < 18446744073709551616) (hv : got < 18446744073709551616) (hgo : GoesK (Sk.opn { s with sh := Sh.step s.sh got })) :
    Calls Tryz.prog 10 #[.pointer (some ⟨q, 0, none⟩), .int .u64 (got : Int)] w (fun e w' => Afts (fun k => k = q ∨ k = qs) q c (Sk.opn { s with sh := Sh.step s.sh got }) w e w' (fun vs' vr' w' => vs' = .pointer (some ⟨qs, 0, none⟩) ∧ Sb w' qs (Sh.step s.sh got) c.d (3 + 2 * (c.th : Int)) c.b (Sk.scell c s) ∧ ((Sk.opn { s with sh := Sh.step s.sh got }).1.p = 8 → Rq w.heap.size vr' w' c (Sk.opn { s with sh := Sh.step s.sh got }).1 none 0))) := by
  have c0 := h.c0
  rw [hp] at c0
  rw [show ((7 : Nat) : Int) = 7 from rfl] at c0
  have c18 := h.c18
  have hne : q ≠ qs := fun e => by
    subst e
    have := (show w.heap[q]? = _ from h).symm.trans (show w.heap[q]? = _ from hs)
    injection this with this
    injection this with h1 h2 h3
    exact absurd h2 (by decide)
  have HN := Lib.hid hne
  have K1 := Lib.hid (stake_any hs hsp hsr got hv)
  have K2 : Hid (∀ w1, Sb w1 qs (Sh.step s.sh got) c.d (3 + 2 * (c.th : Int)) c.b (Sk.scell c s) → Kb w1 q c { s with sh := Sh.step s.sh got } vc (.pointer (some ⟨qs, 0, none⟩)) vr → Calls Tryz.prog 39 #[.pointer (some ⟨q, 0, none⟩)] w1 (Opens q c (Sk.opn { s with sh := Sh.step s.sh got }) vc (.pointer (some ⟨qs, 0, none⟩)) w1)) := Lib.hid (fun w1 h1 h2 => kopen_any h2 hp h1 (Sh.step_r hsr hv))
  have HH := Lib.hid h
  have HT := Lib.hid ho.h
  have HG := Lib.hid hgo
  generalize Sk.opn { s with sh := Sh.step s.sh got } = x at *
  clear h hp ho hs hsp hsr hv hgo hne
  go_enter Tryz.func10, Tryz.ntmps10
  refine scope_hops 1 ?_
  go_wp2_with fail
  with_reducible refine K1.out.mono ?_
  rintro e w1 ⟨rfl, hsb, hch⟩
  have hk1 : Kb w1 q c { s with sh := Sh.step s.sh got } vc (.pointer (some ⟨qs, 0, none⟩)) vr := HH.out.keep (hch.block q HH.out.lt HN.out)
  have K3 := Lib.hid (K2.out w1 hsb hk1)
  have HSB := Lib.hid hsb
  have HCH := Lib.hid hch
  clear hsb hch hk1 K1 K2 c18
  go_wp2_with fail
  with_reducible refine K3.out.mono ?_
  rintro e w2 ⟨rfl, vr2, h1, h2, h3⟩
  have KB := Lib.hid h1
  have KC : Hid (Tn (fun k => k = q ∨ k = qs) (fun k => k = q ∨ k = qs) w w2) := Lib.hid ((HCH.out.wide (fun k e => .inr e) (fun k e => .inl e)).trans (h2.wide (fun k e => .inl e) (fun k e => .inl e)))
  have KR : Hid (Sb w2 qs (Sh.step s.sh got) c.d (3 + 2 * (c.th : Int)) c.b (Sk.scell c s) ∧ (x.1.p = 8 → Rq w.heap.size vr2 w2 c x.1 none 0)) := Lib.hid ⟨HSB.out.keep (h2.block qs HSB.out.lt (fun e => HN.out e.symm)), fun e => by
    obtain ⟨qr, e1, e2⟩ := h3 e
    exact ⟨qr, e1, e2.mono HCH.out.size⟩⟩
  clear h1 h2 h3 K3 HH HSB HCH
  obtain ⟨y, t⟩ := x
  cases t with
  | false =>
    go_wp2
    rw [Hop.ret]
    refine bodyPost_ret (results_none rfl _ _ _) rfl ?_
    exact ⟨rfl, _, _, _, KB.out, KC.out, fun e => (by cases e), fun _ => ⟨rfl, KR.out⟩⟩
  | true =>
    obtain ⟨gw, gn, gi⟩ := HG.out rfl
    replace gw : y.w < 18446744073709551616 := gw
    replace gn : y.n ≤ 1000 := gn
    replace gi : y.i ≤ 100 := gi
    have c14 := KB.out.c14
    have f14 := KB.out.fz 14
    have hw14 : wrap64 ((y.i : Int) + 1) = (y.i : Int) + 1 := by rw [wrap64_small (by omega) (by omega)]
    have h2 := fz_new KB.out
    rw [show ((y.i + 1 : Nat) : Int) = (y.i : Int) + 1 by omega] at h2
    obtain ⟨W, hW⟩ : ∃ W, W = w2.setCell ⟨q, 14, none⟩ (.int .i64 ((y.i : Int) + 1)) := ⟨_, rfl⟩
    rw [← hW] at h2
    have HZ := Lib.hid (show W.heap.size = w2.heap.size by rw [hW, World.size_setCell])
    have HC := Lib.hid (show Chg q w2 W by rw [hW]; exact (Chg.refl q w2).set 14 _ KB.out.lt)
    have KG := Lib.hid (kgoOn_any h2 HT.out gw gn)
    have HW := Lib.hid hW
    clear hW h2 gw gn gi c0
    go_wp2
    apply wp_label
    go_wp2_with fail
    rw [show w2.setCell ⟨q, 14, none⟩ (.int .i64 ((y.i : Int) + 1)) = W from HW.out.symm]
    with_reducible refine KG.out.mono ?_
    rintro e w3 ⟨rfl, vc2, h1, h2, h3⟩
    have H1 := Lib.hid h1; have H2 := Lib.hid (HC.out.trans h2); have H3 := Lib.hid h3; clear h1 h2 h3
    go_wp2
    rw [Hop.normal]
    refine bodyPost_end (results_none rfl _ _ _) rfl ?_
    refine ⟨rfl, vc2, _, _, H1.out, KC.out.trans (H2.out.wide (fun k e => .inl e) (fun k e => .inl e)), fun _ e => ⟨(H3.out e).1, ?_⟩, fun e => (by cases e)⟩
    obtain ⟨qc, e1, e2, e3⟩ := (H3.out e).2
    refine ⟨qc, e1, ?_, e3⟩
    have := KC.out.size
    have := HZ.out
    omega
/-- Led on behind a box was read. -/
def Aft8 (B q qr : Nat) (c : Sk.C) (s : Sk.S) (got : Nat) (vs : Value) (ad : Option Addr) (cc : Nat) (x : Sk.S × Bool) (w : World) (e : Ending) (w' : World) : Prop := e = .returned (.tuple #[]) ∧ ∃ vc' ad' cc', Kb w' q c (Sk.aft c x) vc' vs (.pointer (some ⟨qr, 0, none⟩)) ∧ Tn (fun k => k = q ∨ Rst.F qr s.rs s.rs.length ad cc k) (fun k => k = q ∨ Rst.F qr (s.rs ++ [got]) (s.rs ++ [got]).length ad' cc' k) w w' ∧ (x.2 = true → (Sk.aft c x).p = 2 → (Sk.aft c x).cs = [] ∧ Cq w.heap.size vc' w' c) ∧ Rst B w' qr (s.x / 8) (s.rs ++ [got]) (s.rs ++ [got]).length ad' cc'
theorem Rst.more {B : Nat} {w : World} {q b cc : Nat} {rs : List Nat} {ad : Option Addr} (h : Rst B w q b rs rs.length ad cc) (hl : rs.length < Rd.sz rs) (g : Nat) : Rst B w q b (rs ++ [g]) rs.length ad cc ∧ ∀ k, Rst.F q (rs ++ [g]) rs.length ad cc k ↔ Rst.F q rs rs.length ad cc k := by
  have h0 : Rd.act b (rs ++ [g]) rs.length = Rd.act b rs rs.length ∧ Rd.nr (rs ++ [g]) rs.length = Rd.nr rs rs.length ∧ Rd.rd (rs ++ [g]) rs.length = Rd.rd rs rs.length := by
    cases rs with
    | nil => refine ⟨?_, ?_, ?_⟩
             · show Rd.act b [g] 0 = Rd.act b [] 0
               rw [Rd.act_zero, Rd.act_zero]
             · show Rd.nr [g] 0 = Rd.nr [] 0
               rw [Rd.nr_zero, Rd.nr_zero]
             · show Rd.rd [g] 0 = Rd.rd [] 0
               rw [Rd.rd_zero, Rd.rd_zero]
    | cons a r =>
      have e : Rd.sz (a :: r ++ [g]) = Rd.sz (a :: r) := rfl
      have hn : Rd.nr (a :: r ++ [g]) (a :: r).length = Rd.nr (a :: r) (a :: r).length := by unfold Rd.nr; rw [e]
      refine ⟨by unfold Rd.act; rw [e], hn, ?_⟩
      unfold Rd.rd
      rw [hn, List.take_append_of_le_length (by unfold Rd.nr; omega)]
  obtain ⟨h1, h2, h3⟩ := h0
  refine ⟨⟨h.qB, by rw [h1, h2]; exact h.own, by rw [h2, h3]; exact h.row, by rw [List.length_append]; omega⟩, fun k => ?_⟩
  show Rf q (.slice ad (Rd.nr (rs ++ [g]) rs.length) cc) k ↔ _
  rw [h2]
set_option maxRecDepth 100000 in
set_option maxHeartbeats 2000000 in
theorem ktake_8 {B : Nat} {w : World} {q qr cc : Nat} {c : Sk.C} {s : Sk.S} {vc vs : Value} {ad : Option Addr} (h : Kb w q c s vc vs (.pointer (some ⟨qr, 0, none⟩))) (got : Nat) (hp : s.p = 8) (ho : Sk.Ok c) (hr : Rst B w qr (s.x / 8) s.rs s.rs.length ad cc) (hB : B ≤ w.heap.size) (hl : s.rs.length < Rd.sz s.rs) (hw : ∀ y ∈ s.rs ++ [got], y < 18446744073709551616) (hx : s.x < 18446744073709551616) (g0 : -9223372036854775808 ≤ s.g) (g1 : s.g ≤ 9223372036854775807) (hi : s.i ≤ 8) (hgo : GoesK (Sk.cmp c { s with rs := s.rs ++ [got] })) :
    Calls Tryz.prog 10 #[.pointer (some ⟨q, 0, none⟩), .int .u64 (got : Int)] w (Aft8 B q qr c s got vs ad cc (Sk.cmp c { s with rs := s.rs ++ [got] }) w) := by
  have c0 := h.c0
  rw [hp] at c0
  rw [show ((8 : Nat) : Int) = 8 from rfl] at c0
  have c19 := h.c19
  have hF : ∀ (W : World) (rs : List Nat) (j : Nat) (a : Option Addr) (k : Nat) (y : Sk.S) (a1 a2 a3 : Value), Rst B W qr (s.x / 8) rs j a k → Kb W q c y a1 a2 a3 → ¬ Rst.F qr rs j a k q := fun W rs j a k y a1 a2 a3 h1 h2 e => by
    rcases e with e | e
    · subst e
      have := (show W.heap[q]? = _ from h2).symm.trans (show W.heap[q]? = _ from h1.own)
      injection this with this
      injection this with h1 h2 h3
      exact absurd h2 (by decide)
    · exact own_ne h1.row (show W.heap[q]? = _ from h2) (by decide) e
  have hlen : (s.rs ++ [got]).length = s.rs.length + 1 := by simp
  obtain ⟨hr1, hr2⟩ := hr.more hl got
  have kt := rtake_any hr1 hw (by omega) hB
  rw [show (s.rs ++ [got]).getD s.rs.length 0 = got by simp, ← hlen] at kt
  have K1 := Lib.hid kt
  have K2 : Hid (∀ w1 a k, Rst B w1 qr (s.x / 8) (s.rs ++ [got]) (s.rs ++ [got]).length a k → Kb w1 q c { s with rs := s.rs ++ [got] } vc vs (.pointer (some ⟨qr, 0, none⟩)) → Calls Tryz.prog 41 #[.pointer (some ⟨q, 0, none⟩)] w1 (Cmps q c (Sk.cmp c { s with rs := s.rs ++ [got] }) vc vs (.pointer (some ⟨qr, 0, none⟩)) w1)) := Lib.hid (fun w1 a k h1 h2 => kcmp_any h2 h1 hw hx g0 g1 hi)
  have HH := Lib.hid h
  have HT := Lib.hid ho.h
  have HG := Lib.hid hgo
  have HFF := Lib.hid hF
  have HR2 := Lib.hid hr2
  have HN := Lib.hid (show ¬ Rst.F qr (s.rs ++ [got]) s.rs.length ad cc q from hF w _ _ ad cc s _ _ _ hr1 h)
  generalize Sk.cmp c { s with rs := s.rs ++ [got] } = x at *
  clear h hp ho hr hB hl hw hx g0 g1 hi hgo hF hr1 hr2 kt hlen
  go_enter Tryz.func10, Tryz.ntmps10
  refine scope_hops 1 ?_
  go_wp2_with fail
  with_reducible refine K1.out.mono ?_
  rintro e w1 ⟨rfl, a1, k1, hrs, hch⟩
  have hk1 : Kb w1 q c { s with rs := s.rs ++ [got] } vc vs (.pointer (some ⟨qr, 0, none⟩)) := HH.out.keep (hch.block q HH.out.lt HN.out)
  have K3 := Lib.hid (K2.out w1 a1 k1 hrs hk1)
  have hnq := HFF.out w1 _ _ _ _ _ _ _ _ hrs hk1
  have HRS := Lib.hid hrs
  have HCH := Lib.hid hch
  have HNQ := Lib.hid hnq
  clear hrs hch hk1 K1 K2 c19 hnq
  go_wp2_with fail
  with_reducible refine K3.out.mono ?_
  rintro e w2 ⟨rfl, h1, h2⟩
  have KB := Lib.hid h1
  have KC : Hid (Tn (fun k => k = q ∨ Rst.F qr s.rs s.rs.length ad cc k) (fun k => k = q ∨ Rst.F qr (s.rs ++ [got]) (s.rs ++ [got]).length a1 k1 k) w w2) := Lib.hid ((HCH.out.wide (fun k e => .inr ((HR2.out k).1 e)) (fun k e => e.elim (fun e => .inl (.inl e)) (fun e => (HCH.out.foot k e).elim (fun e => .inl (.inr ((HR2.out k).1 e))) .inr))).trans (h2.wide (fun k e => .inl e) (fun k e => .inl e)))
  have KR : Hid (Rst B w2 qr (s.x / 8) (s.rs ++ [got]) (s.rs ++ [got]).length a1 k1) := Lib.hid (HRS.out.keep fun k e => h2.block k (HRS.out.foot e).2 (fun e2 => HNQ.out (by rw [show k = q from e2] at e; exact e)))
  clear h1 h2 K3 HH HCH HR2 HN HNQ
  obtain ⟨y, t⟩ := x
  cases t with
  | false =>
    go_wp2
    rw [Hop.ret]
    refine bodyPost_ret (results_none rfl _ _ _) rfl ?_
    exact ⟨rfl, _, _, _, KB.out, KC.out, fun e => (by cases e), KR.out⟩
  | true =>
    obtain ⟨gw, gn, gi⟩ := HG.out rfl
    replace gw : y.w < 18446744073709551616 := gw
    replace gn : y.n ≤ 1000 := gn
    replace gi : y.i ≤ 100 := gi
    have c14 := KB.out.c14
    have f14 := KB.out.fz 14
    have hw14 : wrap64 ((y.i : Int) + 1) = (y.i : Int) + 1 := by rw [wrap64_small (by omega) (by omega)]
    have h2 := fz_new KB.out
    rw [show ((y.i + 1 : Nat) : Int) = (y.i : Int) + 1 by omega] at h2
    obtain ⟨W, hW⟩ : ∃ W, W = w2.setCell ⟨q, 14, none⟩ (.int .i64 ((y.i : Int) + 1)) := ⟨_, rfl⟩
    rw [← hW] at h2
    have HZ := Lib.hid (show W.heap.size = w2.heap.size by rw [hW, World.size_setCell])
    have HC := Lib.hid (show Chg q w2 W by rw [hW]; exact (Chg.refl q w2).set 14 _ KB.out.lt)
    have KR3 := Lib.hid (KR.out.keep (w' := W) fun k e => HC.out.block k (KR.out.foot e).2 (fun e2 => HFF.out w2 _ _ _ _ _ _ _ _ KR.out KB.out (by rw [show k = q from e2] at e; exact e)))
    have KG := Lib.hid (kgoOn_any h2 HT.out gw gn)
    have HW := Lib.hid hW
    clear hW h2 gw gn gi c0
    go_wp2
    apply wp_label
    go_wp2_with fail
    rw [show w2.setCell ⟨q, 14, none⟩ (.int .i64 ((y.i : Int) + 1)) = W from HW.out.symm]
    with_reducible refine KG.out.mono ?_
    rintro e w3 ⟨rfl, vc2, h1, h2, h3⟩
    have H1 := Lib.hid h1; have H2 := Lib.hid (HC.out.trans h2); have H3 := Lib.hid h3
    have KR4 : Hid (Rst B w3 qr (s.x / 8) (s.rs ++ [got]) (s.rs ++ [got]).length a1 k1) := Lib.hid (KR3.out.keep fun k e => h2.block k (KR3.out.foot e).2 (fun e2 => HFF.out w2 _ _ _ _ _ _ _ _ KR.out KB.out (by rw [show k = q from e2] at e; exact e)))
    clear h1 h2 h3
    go_wp2
    rw [Hop.normal]
    refine bodyPost_end (results_none rfl _ _ _) rfl ?_
    refine ⟨rfl, vc2, _, _, H1.out, KC.out.trans (H2.out.wide (fun k e => .inl e) (fun k e => .inl e)), fun _ e => ⟨(H3.out e).1, ?_⟩, KR4.out⟩
    obtain ⟨qc, e1, e2, e3⟩ := (H3.out e).2
    refine ⟨qc, e1, ?_, e3⟩
    have := KC.out.size
    have := HZ.out
    omega
end Go.Proofs.YtknefjigdlbacaaGreatDoor
