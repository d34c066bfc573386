/-
  Several texts in one: A seek with what belongs to it; the walk of Act; The walks of a seek's Act where it claims a place, notes a claim, or has ended; Act in all. By an AI agent.
-/
import Derived.Test.YtknefjigdlbacaaGreatDoorSkGAW
set_option linter.unusedSimpArgs false
set_option linter.unusedVariables false
namespace Go.Proofs.YtknefjigdlbacaaGreatDoor
open Go.RowKit Go.Maps
open Ac (A)
/-- A seek with the routine that it goes through, and the blocks that are theirs. -/
def Ks (B : Nat) (w : World) (q : Nat) (c : Sk.C) (s : Sk.S) (H : Nat → Prop) : Prop := B ≤ q ∧ ∃ vc vs vr, Kb w q c s vc vs vr ∧
  ((s.p ≠ 2 ∧ s.p ≠ 7 ∧ s.p ≠ 8 ∧ H = fun k => k = q) ∨
   (s.p = 2 ∧ ∃ qc, vc = .pointer (some ⟨qc, 0, none⟩) ∧ B ≤ qc ∧ Cb w qc c.b c.lg s.cs ∧ H = fun k => k = q ∨ k = qc) ∨
   (s.p = 7 ∧ ∃ qs, vs = .pointer (some ⟨qs, 0, none⟩) ∧ B ≤ qs ∧ Sb w qs s.sh c.d (3 + 2 * (c.th : Int)) c.b (Sk.scell c s) ∧ H = fun k => k = q ∨ k = qs) ∨
   (s.p = 8 ∧ ∃ qr ad cc, vr = .pointer (some ⟨qr, 0, none⟩) ∧ Rst B w qr (s.x / 8) s.rs s.rs.length ad cc ∧ H = fun k => k = q ∨ Rst.F qr s.rs s.rs.length ad cc k))
section
variable {B : Nat} {w w' : World} {q : Nat} {c : Sk.C} {s : Sk.S} {H : Nat → Prop}
theorem Ks.foot (h : Ks B w q c s H) {k : Nat} (hk : H k) : B ≤ k ∧ k < w.heap.size := by
  obtain ⟨hq, vc, vs, vr, hb, h | h | h | h⟩ := h
  · obtain ⟨-, -, -, rfl⟩ := h
    rw [show k = q from hk]; exact ⟨hq, hb.lt⟩
  · obtain ⟨-, qc, -, h1, h2, rfl⟩ := h
    rcases hk with rfl | rfl
    · exact ⟨hq, hb.lt⟩
    · exact ⟨h1, h2.lt⟩
  · obtain ⟨-, qc, -, h1, h2, rfl⟩ := h
    rcases hk with rfl | rfl
    · exact ⟨hq, hb.lt⟩
    · exact ⟨h1, h2.lt⟩
  · obtain ⟨-, qc, ad, cc, -, h1, rfl⟩ := h
    rcases hk with rfl | hk
    · exact ⟨hq, hb.lt⟩
    · exact h1.foot hk
theorem Ks.keep (h : Ks B w q c s H) (hk : ∀ k, H k → w'.heap[k]? = w.heap[k]?) : Ks B w' q c s H := by
  obtain ⟨hq, vc, vs, vr, hb, h | h | h | h⟩ := h
  · obtain ⟨h1, h2, h3, rfl⟩ := h
    exact ⟨hq, vc, vs, vr, hb.keep (hk q rfl), .inl ⟨h1, h2, h3, rfl⟩⟩
  · obtain ⟨h0, qc, h1, h2, h3, rfl⟩ := h
    exact ⟨hq, vc, vs, vr, hb.keep (hk q (.inl rfl)), .inr (.inl ⟨h0, qc, h1, h2, h3.keep (hk qc (.inr rfl)), rfl⟩)⟩
  · obtain ⟨h0, qc, h1, h2, h3, rfl⟩ := h
    exact ⟨hq, vc, vs, vr, hb.keep (hk q (.inl rfl)), .inr (.inr (.inl ⟨h0, qc, h1, h2, h3.keep (hk qc (.inr rfl)), rfl⟩))⟩
  · obtain ⟨h0, qc, ad, cc, h1, h3, rfl⟩ := h
    exact ⟨hq, vc, vs, vr, hb.keep (hk q (.inl rfl)), .inr (.inr (.inr ⟨h0, qc, ad, cc, h1, h3.keep (fun k e => hk k (.inr e)), rfl⟩))⟩
theorem Ks.below (h : Ks B w q c s H) (hb : Below w.heap.size w w') : Ks B w' q c s H := h.keep fun k hk => hb.block k (h.foot hk).2
end
theorem kact_nil (w : World) : Calls Tryz.prog 9 #[.pointer none] w (Gives (.tuple #[av ⟨0, 0, 0, 0, 0⟩, .bool false]) w) := by
  have HB := Lib.hid (zact_below w)
  go_enter Tryz.func9, Tryz.ntmps9
  go_wp2
  exact bodyPost_ret (v := .tuple #[av ⟨0, 0, 0, 0, 0⟩, .bool false]) (by simp [results, Tryz.results9, go_sem]) rfl ⟨rfl, HB.out⟩
set_option maxRecDepth 100000 in
set_option maxHeartbeats 2000000 in
theorem kact_1 {w : World} {q : Nat} {c : Sk.C} {s : Sk.S} {vc vs vr : Value} (h : Kb w q c s vc vs vr) (hp : s.p = 1) (g0 : -9223372036854775808 ≤ s.g) (g1 : s.g ≤ 9223372036854775807) :
    Calls Tryz.prog 9 #[.pointer (some ⟨q, 0, none⟩)] w (Gives (.tuple #[av (Sk.act c s), .bool true]) w) := by
  have HZ : Hid (∀ W, Below (zact w).heap.size (zact w) W → Kb W q c s vc vs vr) := Lib.hid (fun W hb => (h.below (zact_below w)).below hb)
  have c0 := (h.below (zact_below w)).c0
  rw [hp] at c0
  rw [show ((1 : Nat) : Int) = 1 from rfl] at c0
  have HA : Hid (Sk.act c s = ⟨1, c.b, Sk.gcell c s, 0, 0⟩) := Lib.hid (by unfold Sk.act; rw [if_pos hp])
  rw [HA.out]
  have K1 := Lib.hid (kgroup_any (HZ.out _ (Below.refl _ _)) g0 g1)
  have K2 := Lib.hid (fun W hb => kload_any (HZ.out W hb) (Sk.gcell c s))
  generalize Sk.gcell c s = i at *
  generalize hcb : c.b = b at *
  clear h hp g0 g1 HA hcb
  go_enter Tryz.func9, Tryz.ntmps9
  go_wp2_with fail
  with_reducible refine K1.out.mono ?_
  rintro e w1 ⟨rfl, hb1⟩
  have KK := Lib.hid (K2.out w1 hb1)
  have HB1 := Lib.hid hb1
  clear hb1
  go_wp2_with fail
  with_reducible refine KK.out.mono ?_
  rintro e w2 ⟨rfl, hb2⟩
  have hbz := HB1.out.trans (hb2.mono HB1.out.size)
  clear hb2 c0
  obtain ⟨⟨g0, g1, g2, g3, g4⟩, ⟨e0, e1, e2, e3, e4⟩, hbb⟩ := abox hbz
  have HBB := Lib.hid hbb
  clear hbb hbz
  obtain ⟨z, hz⟩ : ∃ z, z = w.heap.size := ⟨_, rfl⟩
  have HZZ := Lib.hid hz
  rw [← hz] at e0 e1 e2 e3 e4 g0 g1 g2 g3 g4 ⊢
  clear hz
  go_wp2
  exact bodyPost_ret (v := .tuple #[av ⟨1, b, i, 0, 0⟩, .bool true]) (by simp [results, Tryz.results9, go_sem, e0, e1, e2, e3, e4]) rfl ⟨rfl, by rw [HZZ.out]; exact HBB.out _ _ _ _ _⟩
set_option maxRecDepth 100000 in
set_option maxHeartbeats 2000000 in
theorem kact_5 {w : World} {q : Nat} {c : Sk.C} {s : Sk.S} {vc vs vr : Value} (h : Kb w q c s vc vs vr) (hp : s.p = 5) (g0 : -9223372036854775808 ≤ s.g) (g1 : s.g ≤ 9223372036854775807) (hi : s.i ≤ 8) :
    Calls Tryz.prog 9 #[.pointer (some ⟨q, 0, none⟩)] w (Gives (.tuple #[av (Sk.act c s), .bool true]) w) := by
  have HZ : Hid (∀ W, Below (zact w).heap.size (zact w) W → Kb W q c s vc vs vr) := Lib.hid (fun W hb => (h.below (zact_below w)).below hb)
  have c0 := (h.below (zact_below w)).c0
  rw [hp] at c0
  rw [show ((5 : Nat) : Int) = 5 from rfl] at c0
  have HA : Hid (Sk.act c s = ⟨1, c.b, Sk.scell c s, 0, 0⟩) := Lib.hid (by unfold Sk.act; repeat (first | rw [if_pos hp] | rw [if_neg (by omega)]))
  rw [HA.out]
  have K1 := Lib.hid (kslot_any (HZ.out _ (Below.refl _ _)) g0 g1 hi)
  have K2 := Lib.hid (fun W hb => kload_any (HZ.out W hb) (Sk.scell c s))
  generalize Sk.scell c s = i at *
  generalize hcb : c.b = b at *
  clear h hp g0 g1 hi HA hcb
  go_enter Tryz.func9, Tryz.ntmps9
  go_wp2_with fail
  with_reducible refine K1.out.mono ?_
  rintro e w1 ⟨rfl, hb1⟩
  have KK := Lib.hid (K2.out w1 hb1)
  have HB1 := Lib.hid hb1
  clear hb1
  go_wp2_with fail
  with_reducible refine KK.out.mono ?_
  rintro e w2 ⟨rfl, hb2⟩
  have hbz := HB1.out.trans (hb2.mono HB1.out.size)
  clear hb2 c0
  obtain ⟨⟨g0, g1, g2, g3, g4⟩, ⟨e0, e1, e2, e3, e4⟩, hbb⟩ := abox hbz
  have HBB := Lib.hid hbb
  clear hbb hbz
  obtain ⟨z, hz⟩ : ∃ z, z = w.heap.size := ⟨_, rfl⟩
  have HZZ := Lib.hid hz
  rw [← hz] at e0 e1 e2 e3 e4 g0 g1 g2 g3 g4 ⊢
  clear hz
  go_wp2
  exact bodyPost_ret (v := .tuple #[av ⟨1, b, i, 0, 0⟩, .bool true]) (by simp [results, Tryz.results9, go_sem, e0, e1, e2, e3, e4]) rfl ⟨rfl, by rw [HZZ.out]; exact HBB.out _ _ _ _ _⟩
set_option maxRecDepth 100000 in
set_option maxHeartbeats 2000000 in
theorem kact_6 {w : World} {q : Nat} {c : Sk.C} {s : Sk.S} {vc vs vr : Value} (h : Kb w q c s vc vs vr) (hp : s.p = 6) (g0 : -9223372036854775808 ≤ s.g) (g1 : s.g ≤ 9223372036854775807) (hi : s.i ≤ 8) (hl : c.lay < 18446744073709551616) :
    Calls Tryz.prog 9 #[.pointer (some ⟨q, 0, none⟩)] w (Gives (.tuple #[av (Sk.act c s), .bool true]) w) := by
  have HZ : Hid (∀ W, Below (zact w).heap.size (zact w) W → Kb W q c s vc vs vr) := Lib.hid (fun W hb => (h.below (zact_below w)).below hb)
  have c0 := (h.below (zact_below w)).c0
  rw [hp] at c0
  rw [show ((6 : Nat) : Int) = 6 from rfl] at c0
  have HA : Hid (Sk.act c s = ⟨3, c.b, Sk.scell c s, 0, Sk.laidw c⟩) := Lib.hid (by unfold Sk.act; repeat (first | rw [if_pos hp] | rw [if_neg (by omega)]))
  rw [HA.out]
  have K1 := Lib.hid (kslot_any (HZ.out _ (Below.refl _ _)) g0 g1 hi)
  have K3 := Lib.hid (fun W hb => klaid_any (HZ.out W hb) hl)
  have K2 : Hid (∀ W, Below (zact w).heap.size (zact w) W → Calls Tryz.prog 28 #[.pointer (some ⟨q, 0, none⟩), .int .i64 (Sk.scell c s), .int .u64 0, .int .u64 (Sk.laidw c : Int)] W (Gives (av ⟨3, c.b, Sk.scell c s, 0, Sk.laidw c⟩) W)) := Lib.hid (fun W hb => kcas_any (HZ.out W hb) (Sk.scell c s) 0 (Sk.laidw c))
  generalize Sk.scell c s = i at *
  generalize Sk.laidw c = lw at *
  generalize hcb : c.b = b at *
  clear h hp g0 g1 hi HA hcb hl
  go_enter Tryz.func9, Tryz.ntmps9
  go_wp2_with fail
  with_reducible refine K1.out.mono ?_
  rintro e w1 ⟨rfl, hb1⟩
  have KK := Lib.hid (K3.out w1 hb1)
  have KL := Lib.hid (K2.out w1 hb1)
  have HB1 := Lib.hid hb1
  clear hb1
  go_wp2_with fail
  with_reducible refine KK.out.mono ?_
  rintro e w1 ⟨rfl, rfl⟩
  go_wp2_with fail
  with_reducible refine KL.out.mono ?_
  rintro e w2 ⟨rfl, hb2⟩
  have hbz := HB1.out.trans (hb2.mono HB1.out.size)
  clear hb2 c0
  obtain ⟨⟨g0, g1, g2, g3, g4⟩, ⟨e0, e1, e2, e3, e4⟩, hbb⟩ := abox hbz
  have HBB := Lib.hid hbb
  clear hbb hbz
  obtain ⟨z, hz⟩ : ∃ z, z = w.heap.size := ⟨_, rfl⟩
  have HZZ := Lib.hid hz
  rw [← hz] at e0 e1 e2 e3 e4 g0 g1 g2 g3 g4 ⊢
  clear hz
  go_wp2
  exact bodyPost_ret (v := .tuple #[av ⟨3, b, i, 0, lw⟩, .bool true]) (by simp [results, Tryz.results9, go_sem, e0, e1, e2, e3, e4]) rfl ⟨rfl, by rw [HZZ.out]; exact HBB.out _ _ _ _ _⟩
set_option maxRecDepth 100000 in
set_option maxHeartbeats 2000000 in
theorem kact_2 {w : World} {q : Nat} {c : Sk.C} {s : Sk.S} {vc vs vr : Value} (h : Kb w q c s vc vs vr) (hp : s.p = 2) {qc : Nat} (hv : vc = .pointer (some ⟨qc, 0, none⟩)) (hc : Cb w qc c.b c.lg s.cs) (hr : Tb.right (c.b : Int) (Tb.grp c.lg) = true) (h4 : s.cs.length < 4) :
    Calls Tryz.prog 9 #[.pointer (some ⟨q, 0, none⟩)] w (Gives (.tuple #[av (Sk.act c s), .bool true]) w) := by
  have HZ : Hid (∀ W, Below (zact w).heap.size (zact w) W → Kb W q c s vc vs vr) := Lib.hid (fun W hb => (h.below (zact_below w)).below hb)
  have c0 := (h.below (zact_below w)).c0
  rw [hp] at c0
  rw [show ((2 : Nat) : Int) = 2 from rfl] at c0
  have c17 := (h.below (zact_below w)).c17
  rw [hv] at c17
  have KK := cact_any (hc.below (zact_below w)) hr (by omega)
  rw [show Cw.more s.cs = true from decide_eq_true h4, show Cw.act c.b s.cs = Sk.act c s by unfold Sk.act; repeat (first | rw [if_pos hp] | rw [if_neg (by omega)])] at KK
  have KK := Lib.hid KK
  generalize Sk.act c s = x at *
  clear h hp hv hc hr h4 HZ
  go_enter Tryz.func9, Tryz.ntmps9
  go_wp2_with fail
  with_reducible refine KK.out.mono ?_
  rintro e w2 ⟨rfl, hbz⟩
  clear c0 c17
  obtain ⟨⟨g0, g1, g2, g3, g4⟩, ⟨e0, e1, e2, e3, e4⟩, hbb⟩ := abox hbz
  have HBB := Lib.hid hbb
  clear hbb hbz
  obtain ⟨z, hz⟩ : ∃ z, z = w.heap.size := ⟨_, rfl⟩
  have HZZ := Lib.hid hz
  rw [← hz] at e0 e1 e2 e3 e4 g0 g1 g2 g3 g4 ⊢
  clear hz
  go_wp2
  exact bodyPost_ret (v := .tuple #[av x, .bool true]) (by simp [results, Tryz.results9, go_sem, e0, e1, e2, e3, e4]) rfl ⟨rfl, by rw [HZZ.out]; exact HBB.out _ _ _ _ _⟩
set_option maxRecDepth 100000 in
set_option maxHeartbeats 2000000 in
theorem kact_7 {w : World} {q : Nat} {c : Sk.C} {s : Sk.S} {vc vs vr : Value} (h : Kb w q c s vc vs vr) (hp : s.p = 7) {qs : Nat} (hv : vs = .pointer (some ⟨qs, 0, none⟩)) (hc : Sb w qs s.sh c.d (3 + 2 * (c.th : Int)) c.b (Sk.scell c s)) (hsp : 1 ≤ s.sh.p ∧ s.sh.p ≤ 2) (hr : s.sh.r < 18446744073709551616) :
    Calls Tryz.prog 9 #[.pointer (some ⟨q, 0, none⟩)] w (Gives (.tuple #[av (Sk.act c s), .bool true]) w) := by
  have HZ : Hid (∀ W, Below (zact w).heap.size (zact w) W → Kb W q c s vc vs vr) := Lib.hid (fun W hb => (h.below (zact_below w)).below hb)
  have c0 := (h.below (zact_below w)).c0
  rw [hp] at c0
  rw [show ((7 : Nat) : Int) = 7 from rfl] at c0
  have c18 := (h.below (zact_below w)).c18
  rw [hv] at c18
  have KK := sact_any (hc.below (zact_below w)) (by omega) hr
  rw [show Sh.more s.sh = true by (unfold Sh.more; obtain h1 | h1 : s.sh.p = 1 ∨ s.sh.p = 2 := by omega) <;> rw [h1] <;> rfl, show Sh.act c.d (3 + 2 * (c.th : Int)) c.b (Sk.scell c s) s.sh = Sk.act c s by unfold Sk.act; repeat (first | rw [if_pos hp] | rw [if_neg (by omega)])] at KK
  have KK := Lib.hid KK
  generalize Sk.act c s = x at *
  clear h hp hv hc hsp hr HZ
  go_enter Tryz.func9, Tryz.ntmps9
  go_wp2_with fail
  with_reducible refine KK.out.mono ?_
  rintro e w2 ⟨rfl, hbz⟩
  clear c0 c18
  obtain ⟨⟨g0, g1, g2, g3, g4⟩, ⟨e0, e1, e2, e3, e4⟩, hbb⟩ := abox hbz
  have HBB := Lib.hid hbb
  clear hbb hbz
  obtain ⟨z, hz⟩ : ∃ z, z = w.heap.size := ⟨_, rfl⟩
  have HZZ := Lib.hid hz
  rw [← hz] at e0 e1 e2 e3 e4 g0 g1 g2 g3 g4 ⊢
  clear hz
  go_wp2
  exact bodyPost_ret (v := .tuple #[av x, .bool true]) (by simp [results, Tryz.results9, go_sem, e0, e1, e2, e3, e4]) rfl ⟨rfl, by rw [HZZ.out]; exact HBB.out _ _ _ _ _⟩
set_option maxRecDepth 100000 in
set_option maxHeartbeats 2000000 in
theorem kact_8 {w : World} {q : Nat} {c : Sk.C} {s : Sk.S} {vc vs vr : Value} (h : Kb w q c s vc vs vr) (hp : s.p = 8) {B qr cc : Nat} {ad : Option Addr} (hv : vr = .pointer (some ⟨qr, 0, none⟩)) (hc : Rst B w qr (s.x / 8) s.rs s.rs.length ad cc) (hr : s.rs.length < Rd.sz s.rs) :
    Calls Tryz.prog 9 #[.pointer (some ⟨q, 0, none⟩)] w (Gives (.tuple #[av (Sk.act c s), .bool true]) w) := by
  have HZ : Hid (∀ W, Below (zact w).heap.size (zact w) W → Kb W q c s vc vs vr) := Lib.hid (fun W hb => (h.below (zact_below w)).below hb)
  have c0 := (h.below (zact_below w)).c0
  rw [hp] at c0
  rw [show ((8 : Nat) : Int) = 8 from rfl] at c0
  have c19 := (h.below (zact_below w)).c19
  rw [hv] at c19
  have KK := rdact_any (hc.below (zact_below w))
  rw [decide_eq_true hr, show Rd.act (s.x / 8) s.rs s.rs.length = Sk.act c s by unfold Sk.act; repeat (first | rw [if_pos hp] | rw [if_neg (by omega)])] at KK
  have KK := Lib.hid KK
  generalize Sk.act c s = x at *
  clear h hp hv hc hr HZ
  go_enter Tryz.func9, Tryz.ntmps9
  go_wp2_with fail
  with_reducible refine KK.out.mono ?_
  rintro e w2 ⟨rfl, hbz⟩
  clear c0 c19
  obtain ⟨⟨g0, g1, g2, g3, g4⟩, ⟨e0, e1, e2, e3, e4⟩, hbb⟩ := abox hbz
  have HBB := Lib.hid hbb
  clear hbb hbz
  obtain ⟨z, hz⟩ : ∃ z, z = w.heap.size := ⟨_, rfl⟩
  have HZZ := Lib.hid hz
  rw [← hz] at e0 e1 e2 e3 e4 g0 g1 g2 g3 g4 ⊢
  clear hz
  go_wp2
  exact bodyPost_ret (v := .tuple #[av x, .bool true]) (by simp [results, Tryz.results9, go_sem, e0, e1, e2, e3, e4]) rfl ⟨rfl, by rw [HZZ.out]; exact HBB.out _ _ _ _ _⟩
end Go.Proofs.YtknefjigdlbacaaGreatDoor
set_option linter.unusedSimpArgs false
set_option linter.unusedVariables false
namespace Go.Proofs.YtknefjigdlbacaaGreatDoor
open Go.RowKit Go.Maps
open Ac (A)
set_option maxRecDepth 100000 in
set_option maxHeartbeats 2000000 in
theorem kact_0 {w : World} {q : Nat} {c : Sk.C} {s : Sk.S} {vc vs vr : Value} (h : Kb w q c s vc vs vr) (hp : s.p = 0)  :
    Calls Tryz.prog 9 #[.pointer (some ⟨q, 0, none⟩)] w (Gives (.tuple #[av (Sk.act c s), .bool false]) w) := by
  have HZ : Hid (∀ W, Below (zact w).heap.size (zact w) W → Kb W q c s vc vs vr) := Lib.hid (fun W hb => (h.below (zact_below w)).below hb)
  have c0 := (h.below (zact_below w)).c0
  rw [hp] at c0
  rw [show ((0 : Nat) : Int) = 0 from rfl] at c0
  have HA : Hid (Sk.act c s = ⟨0, 0, 0, 0, 0⟩) := Lib.hid (by unfold Sk.act; repeat (first | rw [if_pos hp] | rw [if_neg (by omega)]))
  rw [HA.out]
  have HB := Lib.hid (zact_below w)
  clear h hp HA HZ
  go_enter Tryz.func9, Tryz.ntmps9
  go_wp2
  exact bodyPost_ret (v := .tuple #[av ⟨0, 0, 0, 0, 0⟩, .bool false]) (by simp [results, Tryz.results9, go_sem]) rfl ⟨rfl, HB.out⟩
set_option maxRecDepth 100000 in
set_option maxHeartbeats 2000000 in
theorem kact_4 {w : World} {q : Nat} {c : Sk.C} {s : Sk.S} {vc vs vr : Value} (h : Kb w q c s vc vs vr) (hp : s.p = 4)  :
    Calls Tryz.prog 9 #[.pointer (some ⟨q, 0, none⟩)] w (Gives (.tuple #[av (Sk.act c s), .bool true]) w) := by
  have HZ : Hid (∀ W, Below (zact w).heap.size (zact w) W → Kb W q c s vc vs vr) := Lib.hid (fun W hb => (h.below (zact_below w)).below hb)
  have c0 := (h.below (zact_below w)).c0
  rw [hp] at c0
  rw [show ((4 : Nat) : Int) = 4 from rfl] at c0
  have HA : Hid (Sk.act c s = ⟨4, c.b, Tb.strp c.th, 0, 1⟩) := Lib.hid (by unfold Sk.act; repeat (first | rw [if_pos hp] | rw [if_neg (by omega)]))
  rw [HA.out]
  have HH := Lib.hid h
  have KN := Lib.hid (fun W => cnote_any c.b c.lg (c.th : Int) W)
  clear h hp HA
  go_enter Tryz.func9, Tryz.ntmps9
  go_wp2
  refine wp_region_held_drew (S := fun w' => ∃ s' a b d, Kb w' q c s' a b d) (by kernel_rfl) ⟨_, _, _, _, HZ.out _ (Below.refl _ (zact w)).drew⟩ (fun hS => ?_)
  refine wpAnyH_take (i := 0) (v := .pointer (some ⟨q, 0, none⟩)) rfl (by kernel_rfl) (by kernel_rfl) (by kernel_rfl) (fun _ _ _ h => h) (Or.inl ⟨by kernel_rfl, fun w hS => by kernel_rfl⟩) hS ?_
  refine wpAnyH_take (i := 1) (v := .pointer (some ⟨q, 0, none⟩)) rfl (by kernel_rfl) (by kernel_rfl) (by kernel_rfl) (fun _ _ _ h => h) (Or.inl ⟨by kernel_rfl, fun w hS => by kernel_rfl⟩) hS ?_
  refine wpAnyH_take (i := 2) (v := .pointer (some ⟨q, 6, none⟩)) rfl (by kernel_rfl) (by kernel_rfl) (by kernel_rfl) (fun _ _ _ h => h) (Or.inl ⟨by kernel_rfl, fun w hS => by kernel_rfl⟩) hS ?_
  refine wpAnyH_take (i := 3) (v := .agg #[.int .u64 (c.b : Int), .int .i64 c.lg]) rfl (by kernel_rfl) (by kernel_rfl) (by kernel_rfl) (fun _ _ _ h => h) (Or.inl ⟨by kernel_rfl, fun w hS => by obtain ⟨s', _, _, _, hk⟩ := hS; have k2 := hk.c2; have k6 := hk.c6; have k7 := hk.c7; go_simp⟩) hS ?_
  refine wpAnyH_take (i := 4) (v := .pointer (some ⟨q, 0, none⟩)) rfl (by kernel_rfl) (by kernel_rfl) (by kernel_rfl) (fun _ _ _ h => h) (Or.inl ⟨by kernel_rfl, fun w hS => by kernel_rfl⟩) hS ?_
  refine wpAnyH_take (i := 5) (v := .pointer (some ⟨q, 0, none⟩)) rfl (by kernel_rfl) (by kernel_rfl) (by kernel_rfl) (fun _ _ _ h => h) (Or.inl ⟨by kernel_rfl, fun w hS => by kernel_rfl⟩) hS ?_
  refine wpAnyH_take (i := 6) (v := .pointer (some ⟨q, 1, none⟩)) rfl (by kernel_rfl) (by kernel_rfl) (by kernel_rfl) (fun _ _ _ h => h) (Or.inl ⟨by kernel_rfl, fun w hS => by kernel_rfl⟩) hS ?_
  refine wpAnyH_take (i := 7) (v := .pointer (some ⟨q, 2, none⟩)) rfl (by kernel_rfl) (by kernel_rfl) (by kernel_rfl) (fun _ _ _ h => h) (Or.inl ⟨by kernel_rfl, fun w hS => by kernel_rfl⟩) hS ?_
  refine wpAnyH_take (i := 8) (v := .int .i64 (c.th : Int)) rfl (by kernel_rfl) (by kernel_rfl) (by kernel_rfl) (fun _ _ _ h => h) (Or.inl ⟨by kernel_rfl, fun w hS => by obtain ⟨s', _, _, _, hk⟩ := hS; have k2 := hk.c2; have k6 := hk.c6; have k7 := hk.c7; go_simp⟩) hS ?_
  refine wpAnyH_ready (rs := [9]) (by kernel_rfl) (by simp) ?_
  refine AllReadyH.cons rfl (fun K hK => ?_) AllReadyH.nil
  go_simp
  go_at_call 30
  refine (KN.out _).mono ?_
  rintro e w1 ⟨rfl, hb1⟩
  have hbz : Below (zact w).heap.size (zact w) w1 := (Below.refl _ (zact w)).drew.trans (hb1.mono (Below.refl (zact w).heap.size (zact w)).drew.size)
  have h1 := HZ.out w1 hbz
  obtain ⟨⟨g0, g1, g2, g3, g4⟩, ⟨e0, e1, e2, e3, e4⟩, hbb⟩ := abox hbz
  have HBB := Lib.hid hbb
  clear hbb hbz
  clear hb1
  refine hK.out _ _ ⟨_, _, _, _, h1⟩ (fun hS => ?_)
  clear h1
  clear hK K
  refine wpAnyH_ready (rs := [10]) (by kernel_rfl) (by simp) ?_
  refine AllReadyH.cons rfl (fun K hK => ?_) AllReadyH.nil
  go_simp
  refine hK.out _ _ ⟨_, _, _, _, HH.out.below (HBB.out _ _ _ _ _)⟩ (fun hS => ?_)
  clear hK K
  refine wpAnyH_take (i := 11) (v := .bool true) rfl (by kernel_rfl) (by kernel_rfl) (by kernel_rfl) (fun _ _ _ h => h) (Or.inl ⟨by kernel_rfl, fun w hS => by kernel_rfl⟩) hS ?_
  refine wpAnyH_done (by kernel_rfl) ?_ _
  go_wp2
  exact bodyPost_ret (v := .tuple #[av ⟨4, c.b, Tb.strp c.th, 0, 1⟩, .bool true]) (by simp [results, Tryz.results9, go_sem, e0, e1, e2, e3, e4]) rfl ⟨rfl, HBB.out _ _ _ _ _⟩
set_option maxRecDepth 100000 in
set_option maxHeartbeats 2000000 in
theorem kact_3 {w : World} {q : Nat} {c : Sk.C} {s : Sk.S} {vc vs vr : Value} (h : Kb w q c s vc vs vr) (hp : s.p = 3) (g0 : -9223372036854775808 ≤ s.g) (g1 : s.g ≤ 9223372036854775807) (hh : c.h < 18446744073709551616) (hw : s.w < 18446744073709551616) :
    Calls Tryz.prog 9 #[.pointer (some ⟨q, 0, none⟩)] w (Gives (.tuple #[av (Sk.act c s), .bool true]) w) := by
  have HZ : Hid (∀ W, Below (zact w).heap.size (zact w) W → Kb W q c s vc vs vr) := Lib.hid (fun W hb => (h.below (zact_below w)).below hb)
  have c0 := (h.below (zact_below w)).c0
  rw [hp] at c0
  rw [show ((3 : Nat) : Int) = 3 from rfl] at c0
  have HA : Hid (Sk.act c s = ⟨3, c.b, Sk.gcell c s, s.w, Sk.clmd c s⟩) := Lib.hid (by unfold Sk.act; repeat (first | rw [if_pos hp] | rw [if_neg (by omega)]))
  rw [HA.out]
  have HH := Lib.hid h
  have K1 := Lib.hid (fun W hb => kgroup_any (HZ.out W hb) g0 g1)
  have K2 := Lib.hid (fun W hb => kclaimed_any (HZ.out W hb) hh hw)
  have K3 := Lib.hid (fun W hb => kcas_any (HZ.out W hb) (Sk.gcell c s) s.w (Sk.clmd c s))
  generalize Sk.gcell c s = gi at *
  generalize Sk.clmd c s = cm at *
  obtain ⟨b, hcb⟩ : ∃ b, b = c.b := ⟨_, rfl⟩
  rw [← hcb] at K3 ⊢
  clear h hp HA g0 g1 hh hw hcb
  go_enter Tryz.func9, Tryz.ntmps9
  go_wp2
  refine wp_region_held_drew (S := fun w' => Kb w' q c s vc vs vr) (by kernel_rfl) (HZ.out _ (Below.refl _ (zact w)).drew) (fun hS => ?_)
  refine wpAnyH_take (i := 0) (v := .pointer (some ⟨q, 0, none⟩)) rfl (by kernel_rfl) (by kernel_rfl) (by kernel_rfl) (fun _ _ _ h => h) (Or.inl ⟨by kernel_rfl, fun w hS => by kernel_rfl⟩) hS ?_
  refine wpAnyH_take (i := 1) (v := .pointer (some ⟨q, 0, none⟩)) rfl (by kernel_rfl) (by kernel_rfl) (by kernel_rfl) (fun _ _ _ h => h) (Or.inl ⟨by kernel_rfl, fun w hS => by kernel_rfl⟩) hS ?_
  refine wpAnyH_take (i := 3) (v := .pointer (some ⟨q, 0, none⟩)) rfl (by kernel_rfl) (by kernel_rfl) (by kernel_rfl) (fun _ _ _ h => h) (Or.inl ⟨by kernel_rfl, fun w hS => by kernel_rfl⟩) hS ?_
  refine wpAnyH_take (i := 4) (v := .pointer (some ⟨q, 0, none⟩)) rfl (by kernel_rfl) (by kernel_rfl) (by kernel_rfl) (fun _ _ _ h => h) (Or.inl ⟨by kernel_rfl, fun w hS => by kernel_rfl⟩) hS ?_
  refine wpAnyH_take (i := 5) (v := .pointer (some ⟨q, 15, none⟩)) rfl (by kernel_rfl) (by kernel_rfl) (by kernel_rfl) (fun _ _ _ h => h) (Or.inl ⟨by kernel_rfl, fun w hS => by kernel_rfl⟩) hS ?_
  refine wpAnyH_take (i := 6) (v := .int .u64 (s.w : Int)) rfl (by kernel_rfl) (by kernel_rfl) (by kernel_rfl) (fun _ _ _ h => h) (Or.inl ⟨by kernel_rfl, fun w hS => by have k15 := hS.c15; go_simp⟩) hS ?_
  refine wpAnyH_take (i := 7) (v := .pointer (some ⟨q, 0, none⟩)) rfl (by kernel_rfl) (by kernel_rfl) (by kernel_rfl) (fun _ _ _ h => h) (Or.inl ⟨by kernel_rfl, fun w hS => by kernel_rfl⟩) hS ?_
  refine wpAnyH_ready (rs := [2]) (by kernel_rfl) (by simp) ?_
  refine AllReadyH.cons rfl (fun K hK => ?_) AllReadyH.nil
  go_simp
  go_at_call 26
  refine (K1.out _ (Below.refl _ (zact w)).drew).mono ?_
  rintro e w1 ⟨rfl, hb1⟩
  have HB1 : Hid (Below (zact w).heap.size (zact w) w1) := Lib.hid ((Below.refl _ (zact w)).drew.trans (hb1.mono (Below.refl (zact w).heap.size (zact w)).drew.size))
  clear hb1
  refine hK.out _ _ (HZ.out _ HB1.out) (fun hS => ?_)
  clear hK K
  refine wpAnyH_ready (rs := [8]) (by kernel_rfl) (by simp) ?_
  refine AllReadyH.cons rfl (fun K hK => ?_) AllReadyH.nil
  go_simp
  go_at_call 29
  refine (K2.out _ HB1.out).mono ?_
  rintro e w2 ⟨rfl, hb2⟩
  have HB2 : Hid (Below (zact w).heap.size (zact w) w2) := Lib.hid (HB1.out.trans (hb2.mono HB1.out.size))
  clear hb2
  refine hK.out _ _ (HZ.out _ HB2.out) (fun hS => ?_)
  clear hK K
  refine wpAnyH_ready (rs := [9]) (by kernel_rfl) (by simp) ?_
  refine AllReadyH.cons rfl (fun K hK => ?_) AllReadyH.nil
  go_simp
  go_at_call 28
  refine (K3.out _ HB2.out).mono ?_
  rintro e w3 ⟨rfl, hb3⟩
  have hbz : Below (zact w).heap.size (zact w) w3 := HB2.out.trans (hb3.mono HB2.out.size)
  have h1 := HZ.out w3 hbz
  obtain ⟨⟨g0, g1, g2, g3, g4⟩, ⟨e0, e1, e2, e3, e4⟩, hbb⟩ := abox hbz
  have HBB := Lib.hid hbb
  clear hbb hbz
  clear hb3
  refine hK.out _ _ h1 (fun hS => ?_)
  clear hK K h1
  refine wpAnyH_ready (rs := [10]) (by kernel_rfl) (by simp) ?_
  refine AllReadyH.cons rfl (fun K hK => ?_) AllReadyH.nil
  go_simp
  refine hK.out _ _ (HH.out.below (HBB.out _ _ _ _ _)) (fun hS => ?_)
  clear hK K
  refine wpAnyH_take (i := 11) (v := .bool true) rfl (by kernel_rfl) (by kernel_rfl) (by kernel_rfl) (fun _ _ _ h => h) (Or.inl ⟨by kernel_rfl, fun w hS => by kernel_rfl⟩) hS ?_
  refine wpAnyH_done (by kernel_rfl) ?_ _
  go_wp2
  exact bodyPost_ret (v := .tuple #[av ⟨3, b, gi, s.w, cm⟩, .bool true]) (by simp [results, Tryz.results9, go_sem, e0, e1, e2, e3, e4]) rfl ⟨rfl, HBB.out _ _ _ _ _⟩
/-- Act. -/
theorem skact_any {B : Nat} {w : World} {q : Nat} {c : Sk.C} {s : Sk.S} {H : Nat → Prop} (h : Ks B w q c s H) (hs : Sk.Wf c s) (ho : Sk.Ok c) (hr : Tb.right (c.b : Int) (Tb.grp c.lg) = true) :
    Calls Tryz.prog 9 #[.pointer (some ⟨q, 0, none⟩)] w (Gives (.tuple #[av (Sk.act c s), .bool (Sk.more s)]) w) := by
  obtain ⟨hq, vc, vs, vr, hb, h⟩ := h
  have hgl := Tb.grp_le c.lg
  by_cases h0 : s.p = 0
  · rw [show Sk.more s = false by unfold Sk.more; rw [h0]; rfl]
    exact kact_0 hb h0
  · rw [show Sk.more s = true by unfold Sk.more; simpa using h0]
    have hg := hs.g h0
    have hg0 : -9223372036854775808 ≤ s.g := by omega
    have hg1 : s.g ≤ 9223372036854775807 := by omega
    have hp := hs.p
    have hi := hs.i
    rcases h with h | h | h | h
    · have : s.p = 1 ∨ s.p = 3 ∨ s.p = 4 ∨ s.p = 5 ∨ s.p = 6 := by omega
      rcases this with h1 | h1 | h1 | h1 | h1
      · exact kact_1 hb h1 hg0 hg1
      · exact kact_3 hb h1 hg0 hg1 ho.h hs.w
      · exact kact_4 hb h1
      · exact kact_5 hb h1 hg0 hg1 hi
      · exact kact_6 hb h1 hg0 hg1 hi ho.lay
    · obtain ⟨h1, qc, e, -, h2, -⟩ := h
      exact kact_2 hb h1 e h2 hr (hs.ask h1)
    · obtain ⟨h1, qc, e, -, h2, -⟩ := h
      exact kact_7 hb h1 e h2 (hs.shi h1) hs.r
    · obtain ⟨h1, qr, ad, cc, e, h2, -⟩ := h
      exact kact_8 hb h1 e h2 (hs.rd h1).1
end Go.Proofs.YtknefjigdlbacaaGreatDoor
