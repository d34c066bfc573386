/-
  The walk of the document's own Do, of operations on a key. By an AI agent.
-/
import Derived.Test.YtigopifioijjlaaSpecRefDo
import Derived.Test.YtigopifioijjlaaSpecRef2
import Derived.Deep.RegionHeld3
set_option linter.unusedSimpArgs false
namespace Go.Proofs.Ytigopifioijjlaa
open Go.RowKit
open Dc (Pr Rpl)
theorem rp_new (w : World) (r : Rpl) (u : Value) : RpAt (w.alloc (.cells #[.int .i64 r.err, .bool r.had, .bool r.did, .string r.val, .int .i64 r.n, u] 30)) w.heap.size r u := heap_alloc_new w _
theorem RpAt.drew {w : World} {b : Nat} {r : Rpl} {u : Value} (h : RpAt w b r u) : RpAt w.drew b r u := h
theorem RpAt.lt {w : World} {b : Nat} {r : Rpl} {u : Value} (h : RpAt w b r u) : b < w.heap.size := (Array.getElem?_eq_some_iff.1 h).1
theorem OpAt.lt {w : World} {b : Nat} {k : Int} {key val old : ByteArray} (h : OpAt w b k key val old) : b < w.heap.size := (Array.getElem?_eq_some_iff.1 h).1
set_option maxRecDepth 100000 in
set_option maxHeartbeats 4000000 in
theorem rdo_no (v : Value) (l : List Pr) (k : Int) (key val old : ByteArray) (w : World) (h : Lst w v l) (hl : l.length ≤ 1000) (hlong : Dc.longB k key val = false) (hk : k = 1 ∨ k = 3 ∨ k = 4 ∨ k = 5 ∨ k = 6 ∨ k = 7) (hd : Dc.didB k old (Dc.gt l key) = false) :
    Calls Try.prog 9 #[v, .agg #[.int .i64 k, .string key, .string val, .string old]] w (Does l (Dc.keyR l k key old) w) := by
  have hkr : Dc.keyR l k key old = { had := (Dc.gt l key).isSome, did := false, val := (Dc.gt l key).getD ⟨#[]⟩ } := by unfold Dc.keyR; rw [hd]
  rw [hkr]; clear hkr
  have HB0 := Lib.hid (two_below w k key val old)
  have HO := Lib.hid (two_op w k key val old)
  have HRp := Lib.hid (two_rp w k key val old)
  have HZ0 := Lib.hid (two_size w k key val old)
  have HV := Lib.hid h
  obtain ⟨va, vc, rfl, -⟩ := h
  have hL := rlong_any k key val old (two w k key val old)
  rw [hlong] at hL
  have HL := Lib.hid hL; clear hL hlong
  unfold two at HL HO HRp HB0 HZ0
  have HT : Hid (∀ w1, Lst w1 (.slice va l.length vc) l → True) := Lib.hid (fun _ _ => trivial)
  clear HT
  have hG : ∀ w1, Lst w1 (.slice va l.length vc) l → Calls Try.prog 20 #[.slice va l.length vc, .string key] w1 (Same (ans (Dc.gt l key)) w1) := fun w1 h1 => rget_any _ l key w1 h1 (by omega)
  simp only [ans_eq] at hG
  generalize Dc.gt l key = g at *
  cases g with
  | none =>
    simp only [Option.getD_none, Option.isSome_none] at hG ⊢
    have HG := Lib.hid hG; clear hG
    rcases hk with rfl | rfl | rfl | rfl | rfl | rfl
    all_goals try (simp [Dc.didB] at hd; done)
    all_goals clear hd
    all_goals
      go_enter Try.func9, Try.ntmps9
      go_wp2_with fail
      with_reducible refine HL.out.mono ?_
      rintro e w1 ⟨rfl, hb1⟩
      have HO1 := Lib.hid (HO.out.keep (hb1.block w.heap.size (by simp; omega)))
      have HR1 := Lib.hid (HRp.out.keep (hb1.block (w.heap.size + 1) (by simp)))
      obtain ⟨c0, c1, c2, c3⟩ := HO1.out.cells
      have HB1 := Lib.hid (HB0.out.trans (hb1.mono (by have := HZ0.out; omega)))
      have HG1 := Lib.hid (HG.out w1 (HV.out.below HB1.out))
      have hz1 := hb1.size
      simp only [World.size_alloc] at hz1
      have a0 : ∀ o, (w1.alloc o).cell? ⟨w.heap.size, 0, none⟩ = _ := fun o => (World.cell?_alloc_lt w1 o ⟨w.heap.size, 0, none⟩ (by show w.heap.size < _; omega)).trans c0
      have a1 : ∀ o, (w1.alloc o).cell? ⟨w.heap.size, 1, none⟩ = _ := fun o => (World.cell?_alloc_lt w1 o ⟨w.heap.size, 1, none⟩ (by show w.heap.size < _; omega)).trans c1
      have a2 : ∀ o, (w1.alloc o).cell? ⟨w.heap.size, 2, none⟩ = _ := fun o => (World.cell?_alloc_lt w1 o ⟨w.heap.size, 2, none⟩ (by show w.heap.size < _; omega)).trans c2
      have a3 : ∀ o, (w1.alloc o).cell? ⟨w.heap.size, 3, none⟩ = _ := fun o => (World.cell?_alloc_lt w1 o ⟨w.heap.size, 3, none⟩ (by show w.heap.size < _; omega)).trans c3
      clear hb1
      go_wp2_with fail
      with_reducible refine HG1.out.mono ?_
      rintro e w2 ⟨rfl, rfl⟩
      go_wp2
      obtain ⟨W, hW⟩ : ∃ W, w1.alloc (.cells #[.int .i64 0, .bool false, .bool false, .string ⟨#[]⟩, .int .i64 0, .slice none 0 0] 30) = W := ⟨_, rfl⟩
      rw [hW]
      have HRn : Hid (RpAt W w1.heap.size { had := false, did := false, val := ⟨#[]⟩ } (.slice none 0 0)) := Lib.hid (hW ▸ rp_new w1 { had := false, did := false, val := ⟨#[]⟩ } (.slice none 0 0))
      have HR2 : Hid (RpAt W (w.heap.size + 1) {} (.slice none 0 0)) := Lib.hid (HR1.out.keep (hW ▸ Below.heap_alloc w1 _ _ HR1.out.lt))
      have HO2 : Hid (OpAt W w.heap.size _ key val old) := Lib.hid (HO1.out.keep (hW ▸ Below.heap_alloc w1 _ _ HO1.out.lt))
      have HB2 : Hid (Below w.heap.size w W) := Lib.hid (hW ▸ HB1.out.alloc HB1.out.size _)
      have hne : w1.heap.size ≠ w.heap.size + 1 := by omega
      have hne2 : w.heap.size + 1 ≠ w1.heap.size := by omega
      clear a0 a1 a2 a3 c0 c1 c2 c3 hW HO1 HR1 HB1 HG1
      obtain ⟨n0, n1, n2, n3, n4, n5⟩ := HRn.out.cells
      obtain ⟨f0, f1, f2, f3, f4, f5⟩ := HR2.out.cells
      have fz := HR2.out.frozen
      go_region
      all_goals go_wp2
      clear f0 f1 f2 f3 f4 f5 n0 n1 n2 n3 n4 n5 fz
      show bodyPost _ _ _ _ _ (World.drew (six W (w.heap.size + 1) { had := false, did := false, val := ⟨#[]⟩ } (.slice none 0 0)))
      have HBe : Hid (Below w.heap.size w (World.drew (six W (w.heap.size + 1) { had := false, did := false, val := ⟨#[]⟩ } (.slice none 0 0)))) := Lib.hid ((six_below HB2.out (b := w.heap.size + 1) (by omega) { had := false, did := false, val := ⟨#[]⟩ } (.slice none 0 0)).drew)
      have HRe : Hid (RpAt (World.drew (six W (w.heap.size + 1) { had := false, did := false, val := ⟨#[]⟩ } (.slice none 0 0))) (w.heap.size + 1) { had := false, did := false, val := ⟨#[]⟩ } (.slice none 0 0)) := Lib.hid ((HR2.out.six { had := false, did := false, val := ⟨#[]⟩ } (.slice none 0 0)).drew)
      have HLe := Lib.hid (HV.out.below HBe.out)
      generalize (World.drew (six W (w.heap.size + 1) { had := false, did := false, val := ⟨#[]⟩ } (.slice none 0 0))) = we at HBe HRe HLe ⊢
      obtain ⟨g0, g1, g2, g3, g4, g5⟩ := HRe.out.cells
      exact bodyPost_ret (v := .tuple #[.slice va l.length vc, .agg #[.int .i64 0, .bool false, .bool false, .string ⟨#[]⟩, .int .i64 0, (.slice none 0 0)]]) (by simp [results, Try.results9, go_sem, g0, g1, g2, g3, g4, g5]) rfl ⟨_, _, rfl, HLe.out, Lst.nil _, HBe.out⟩
  | some x =>
    simp only [Option.getD_some, Option.isSome_some] at hG ⊢
    have HG := Lib.hid hG; clear hG
    cases hc : Dc.ke x old
    all_goals
      have hc1 : (x.toList == old.toList) = Dc.ke x old := rfl
      rw [hc] at hc1
      rcases hk with rfl | rfl | rfl | rfl | rfl | rfl
      all_goals try (simp [Dc.didB, hc] at hd; done)
      all_goals clear hd
      all_goals try clear hc
      all_goals
        go_enter Try.func9, Try.ntmps9
        go_wp2_with fail
        with_reducible refine HL.out.mono ?_
        rintro e w1 ⟨rfl, hb1⟩
        have HO1 := Lib.hid (HO.out.keep (hb1.block w.heap.size (by simp; omega)))
        have HR1 := Lib.hid (HRp.out.keep (hb1.block (w.heap.size + 1) (by simp)))
        obtain ⟨c0, c1, c2, c3⟩ := HO1.out.cells
        have HB1 := Lib.hid (HB0.out.trans (hb1.mono (by have := HZ0.out; omega)))
        have HG1 := Lib.hid (HG.out w1 (HV.out.below HB1.out))
        have hz1 := hb1.size
        simp only [World.size_alloc] at hz1
        have a0 : ∀ o, (w1.alloc o).cell? ⟨w.heap.size, 0, none⟩ = _ := fun o => (World.cell?_alloc_lt w1 o ⟨w.heap.size, 0, none⟩ (by show w.heap.size < _; omega)).trans c0
        have a1 : ∀ o, (w1.alloc o).cell? ⟨w.heap.size, 1, none⟩ = _ := fun o => (World.cell?_alloc_lt w1 o ⟨w.heap.size, 1, none⟩ (by show w.heap.size < _; omega)).trans c1
        have a2 : ∀ o, (w1.alloc o).cell? ⟨w.heap.size, 2, none⟩ = _ := fun o => (World.cell?_alloc_lt w1 o ⟨w.heap.size, 2, none⟩ (by show w.heap.size < _; omega)).trans c2
        have a3 : ∀ o, (w1.alloc o).cell? ⟨w.heap.size, 3, none⟩ = _ := fun o => (World.cell?_alloc_lt w1 o ⟨w.heap.size, 3, none⟩ (by show w.heap.size < _; omega)).trans c3
        clear hb1
        go_wp2_with fail
        with_reducible refine HG1.out.mono ?_
        rintro e w2 ⟨rfl, rfl⟩
        go_wp2
        obtain ⟨W, hW⟩ : ∃ W, w1.alloc (.cells #[.int .i64 0, .bool true, .bool false, .string x, .int .i64 0, .slice none 0 0] 30) = W := ⟨_, rfl⟩
        rw [hW]
        have HRn : Hid (RpAt W w1.heap.size { had := true, did := false, val := x } (.slice none 0 0)) := Lib.hid (hW ▸ rp_new w1 { had := true, did := false, val := x } (.slice none 0 0))
        have HR2 : Hid (RpAt W (w.heap.size + 1) {} (.slice none 0 0)) := Lib.hid (HR1.out.keep (hW ▸ Below.heap_alloc w1 _ _ HR1.out.lt))
        have HO2 : Hid (OpAt W w.heap.size _ key val old) := Lib.hid (HO1.out.keep (hW ▸ Below.heap_alloc w1 _ _ HO1.out.lt))
        have HB2 : Hid (Below w.heap.size w W) := Lib.hid (hW ▸ HB1.out.alloc HB1.out.size _)
        have hne : w1.heap.size ≠ w.heap.size + 1 := by omega
        have hne2 : w.heap.size + 1 ≠ w1.heap.size := by omega
        clear a0 a1 a2 a3 c0 c1 c2 c3 hW HO1 HR1 HB1 HG1
        obtain ⟨n0, n1, n2, n3, n4, n5⟩ := HRn.out.cells
        obtain ⟨f0, f1, f2, f3, f4, f5⟩ := HR2.out.cells
        have fz := HR2.out.frozen
        go_region
        all_goals go_wp2
        clear f0 f1 f2 f3 f4 f5 n0 n1 n2 n3 n4 n5 fz
        show bodyPost _ _ _ _ _ (World.drew (six W (w.heap.size + 1) { had := true, did := false, val := x } (.slice none 0 0)))
        have HBe : Hid (Below w.heap.size w (World.drew (six W (w.heap.size + 1) { had := true, did := false, val := x } (.slice none 0 0)))) := Lib.hid ((six_below HB2.out (b := w.heap.size + 1) (by omega) { had := true, did := false, val := x } (.slice none 0 0)).drew)
        have HRe : Hid (RpAt (World.drew (six W (w.heap.size + 1) { had := true, did := false, val := x } (.slice none 0 0))) (w.heap.size + 1) { had := true, did := false, val := x } (.slice none 0 0)) := Lib.hid ((HR2.out.six { had := true, did := false, val := x } (.slice none 0 0)).drew)
        have HLe := Lib.hid (HV.out.below HBe.out)
        generalize (World.drew (six W (w.heap.size + 1) { had := true, did := false, val := x } (.slice none 0 0))) = we at HBe HRe HLe ⊢
        obtain ⟨g0, g1, g2, g3, g4, g5⟩ := HRe.out.cells
        exact bodyPost_ret (v := .tuple #[.slice va l.length vc, .agg #[.int .i64 0, .bool true, .bool false, .string x, .int .i64 0, (.slice none 0 0)]]) (by simp [results, Try.results9, go_sem, g0, g1, g2, g3, g4, g5]) rfl ⟨_, _, rfl, HLe.out, Lst.nil _, HBe.out⟩
set_option maxRecDepth 100000 in
set_option maxHeartbeats 4000000 in
theorem rdo_del (v : Value) (l : List Pr) (k : Int) (key val old : ByteArray) (w : World) (h : Lst w v l) (hl : l.length ≤ 1000) (hlong : Dc.longB k key val = false) (hk : k = 6 ∨ k = 7) (hd : Dc.didB k old (Dc.gt l key) = true) :
    Calls Try.prog 9 #[v, .agg #[.int .i64 k, .string key, .string val, .string old]] w (Does (Dc.del l key) (Dc.keyR l k key old) w) := by
  have hkr : Dc.keyR l k key old = { had := (Dc.gt l key).isSome, did := true, val := (Dc.gt l key).getD ⟨#[]⟩ } := by unfold Dc.keyR; rw [hd]
  rw [hkr]; clear hkr
  have HB0 := Lib.hid (two_below w k key val old)
  have HO := Lib.hid (two_op w k key val old)
  have HRp := Lib.hid (two_rp w k key val old)
  have HZ0 := Lib.hid (two_size w k key val old)
  have HV := Lib.hid h
  obtain ⟨va, vc, rfl, -⟩ := h
  have hL := rlong_any k key val old (two w k key val old)
  rw [hlong] at hL
  have HL := Lib.hid hL; clear hL hlong
  unfold two at HL HO HRp HB0 HZ0
  have HT : Hid (∀ w1, Lst w1 (.slice va l.length vc) l → Calls Try.prog 19 #[.slice va l.length vc, .string key] w1 (Tells (Dc.del l key) w1)) := Lib.hid (fun w1 h1 => rdel_any _ l key w1 h1 (by omega))
  generalize Dc.del l key = m at *
  have hG : ∀ w1, Lst w1 (.slice va l.length vc) l → Calls Try.prog 20 #[.slice va l.length vc, .string key] w1 (Same (ans (Dc.gt l key)) w1) := fun w1 h1 => rget_any _ l key w1 h1 (by omega)
  simp only [ans_eq] at hG
  generalize Dc.gt l key = g at *
  cases g with
  | none =>
    simp only [Option.getD_none, Option.isSome_none] at hG ⊢
    have HG := Lib.hid hG; clear hG
    rcases hk with rfl | rfl
    all_goals try (simp [Dc.didB] at hd; done)
    all_goals clear hd
    all_goals
      go_enter Try.func9, Try.ntmps9
      go_wp2_with fail
      with_reducible refine HL.out.mono ?_
      rintro e w1 ⟨rfl, hb1⟩
      have HO1 := Lib.hid (HO.out.keep (hb1.block w.heap.size (by simp; omega)))
      have HR1 := Lib.hid (HRp.out.keep (hb1.block (w.heap.size + 1) (by simp)))
      obtain ⟨c0, c1, c2, c3⟩ := HO1.out.cells
      have HB1 := Lib.hid (HB0.out.trans (hb1.mono (by have := HZ0.out; omega)))
      have HG1 := Lib.hid (HG.out w1 (HV.out.below HB1.out))
      have hz1 := hb1.size
      simp only [World.size_alloc] at hz1
      have a0 : ∀ o, (w1.alloc o).cell? ⟨w.heap.size, 0, none⟩ = _ := fun o => (World.cell?_alloc_lt w1 o ⟨w.heap.size, 0, none⟩ (by show w.heap.size < _; omega)).trans c0
      have a1 : ∀ o, (w1.alloc o).cell? ⟨w.heap.size, 1, none⟩ = _ := fun o => (World.cell?_alloc_lt w1 o ⟨w.heap.size, 1, none⟩ (by show w.heap.size < _; omega)).trans c1
      have a2 : ∀ o, (w1.alloc o).cell? ⟨w.heap.size, 2, none⟩ = _ := fun o => (World.cell?_alloc_lt w1 o ⟨w.heap.size, 2, none⟩ (by show w.heap.size < _; omega)).trans c2
      have a3 : ∀ o, (w1.alloc o).cell? ⟨w.heap.size, 3, none⟩ = _ := fun o => (World.cell?_alloc_lt w1 o ⟨w.heap.size, 3, none⟩ (by show w.heap.size < _; omega)).trans c3
      clear hb1
      go_wp2_with fail
      with_reducible refine HG1.out.mono ?_
      rintro e w2 ⟨rfl, rfl⟩
      go_wp2
      obtain ⟨W, hW⟩ : ∃ W, w1.alloc (.cells #[.int .i64 0, .bool false, .bool true, .string ⟨#[]⟩, .int .i64 0, .slice none 0 0] 30) = W := ⟨_, rfl⟩
      rw [hW]
      have HRn : Hid (RpAt W w1.heap.size { had := false, did := true, val := ⟨#[]⟩ } (.slice none 0 0)) := Lib.hid (hW ▸ rp_new w1 { had := false, did := true, val := ⟨#[]⟩ } (.slice none 0 0))
      have HR2 : Hid (RpAt W (w.heap.size + 1) {} (.slice none 0 0)) := Lib.hid (HR1.out.keep (hW ▸ Below.heap_alloc w1 _ _ HR1.out.lt))
      have HO2 : Hid (OpAt W w.heap.size _ key val old) := Lib.hid (HO1.out.keep (hW ▸ Below.heap_alloc w1 _ _ HO1.out.lt))
      have HB2 : Hid (Below w.heap.size w W) := Lib.hid (hW ▸ HB1.out.alloc HB1.out.size _)
      have hne : w1.heap.size ≠ w.heap.size + 1 := by omega
      have hne2 : w.heap.size + 1 ≠ w1.heap.size := by omega
      clear a0 a1 a2 a3 c0 c1 c2 c3 hW HO1 HR1 HB1 HG1
      have HK : Hid (∀ w' : World, w'.heap[w.heap.size]? = W.heap[w.heap.size]? → w'.heap[w1.heap.size]? = W.heap[w1.heap.size]? → (w'.cell? ⟨w.heap.size, 1, none⟩ = some (.string key) ∧ w'.cell? ⟨w.heap.size, 2, none⟩ = some (.string val)) ∧ w'.cell? ⟨w1.heap.size, 0, none⟩ = some (.int .i64 0) ∧ w'.cell? ⟨w1.heap.size, 1, none⟩ = some (.bool false) ∧ w'.cell? ⟨w1.heap.size, 2, none⟩ = some (.bool true) ∧ w'.cell? ⟨w1.heap.size, 3, none⟩ = some (.string ⟨#[]⟩) ∧ w'.cell? ⟨w1.heap.size, 4, none⟩ = some (.int .i64 0) ∧ w'.cell? ⟨w1.heap.size, 5, none⟩ = some (.slice none 0 0)) := Lib.hid (fun w' h1 h2 => ⟨⟨(HO2.out.keep h1).cells.2.1, (HO2.out.keep h1).cells.2.2.1⟩, (HRn.out.keep h2).cells⟩)
      have HLd : Hid (Lst W.drew (.slice va l.length vc) l) := Lib.hid ((HV.out.below HB2.out).below (Below.refl _ _).drew)
      have HT1 := Lib.hid (HT.out _ HLd.out)
      obtain ⟨⟨p1, p2⟩, n0, n1, n2, n3, n4, n5⟩ := HK.out W rfl rfl
      have HQ : Hid (∀ w3, Below W.drew.heap.size W.drew w3 → RpAt w3 (w.heap.size + 1) {} (.slice none 0 0)) := Lib.hid (fun w3 hb3 => HR2.out.keep (hb3.block (w.heap.size + 1) HR2.out.lt))
      have HZ : Hid (∀ w3, Below W.drew.heap.size W.drew w3 → ∀ q, q < W.heap.size → w3.heap[q]? = W.heap[q]?) := Lib.hid (fun w3 hb3 q hq => hb3.block q hq)
      have K0 := Lib.hid (HK.out W.drew rfl rfl)
      go_region_held3 (fun w' => (w'.cell? ⟨w.heap.size, 1, none⟩ = some (.string key) ∧ w'.cell? ⟨w.heap.size, 2, none⟩ = some (.string val)) ∧ w'.cell? ⟨w1.heap.size, 0, none⟩ = some (.int .i64 0) ∧ w'.cell? ⟨w1.heap.size, 1, none⟩ = some (.bool false) ∧ w'.cell? ⟨w1.heap.size, 2, none⟩ = some (.bool true) ∧ w'.cell? ⟨w1.heap.size, 3, none⟩ = some (.string ⟨#[]⟩) ∧ w'.cell? ⟨w1.heap.size, 4, none⟩ = some (.int .i64 0) ∧ w'.cell? ⟨w1.heap.size, 5, none⟩ = some (.slice none 0 0))
        (first | with_reducible exact K3.out | with_reducible exact K0.out | with_reducible exact K6.out | fail)
        (first | (go_at_call 19; (with_reducible refine HT1.out.mono ?_); rintro e w3 ⟨v3, rfl, hr3, hb3⟩; have B3 := Lib.hid hb3; have R3 := Lib.hid hr3; clear hb3 hr3; have K3 := Lib.hid (HK.out w3 (HZ.out _ B3.out _ HO2.out.lt) (HZ.out _ B3.out _ HRn.out.lt)); have K6 := Lib.hid (HK.out (six w3 (w.heap.size + 1) { had := false, did := true, val := ⟨#[]⟩ } (.slice none 0 0)) ((six_block (by omega) { had := false, did := true, val := ⟨#[]⟩ } (.slice none 0 0)).trans (HZ.out _ B3.out _ HO2.out.lt)) ((six_block (by omega) { had := false, did := true, val := ⟨#[]⟩ } (.slice none 0 0)).trans (HZ.out _ B3.out _ HRn.out.lt))); dsimp only [six] at K6; obtain ⟨f0, f1, f2, f3, f4, f5⟩ := (HQ.out _ B3.out).cells; have fz := (HQ.out _ B3.out).frozen) | fail)
      clear K0 K3 K6 p1 p2 n0 n1 n2 n3 n4 n5
      go_wp2
      clear f0 f1 f2 f3 f4 f5 fz
      have HB3 : Hid (Below w.heap.size w w3) := Lib.hid (HB2.out.drew.trans (B3.out.mono HB2.out.size))
      have HR3 := Lib.hid (HQ.out _ B3.out)
      show bodyPost _ _ _ _ _ (six w3 (w.heap.size + 1) { had := false, did := true, val := ⟨#[]⟩ } (.slice none 0 0))
      have HBe : Hid (Below w.heap.size w (six w3 (w.heap.size + 1) { had := false, did := true, val := ⟨#[]⟩ } (.slice none 0 0))) := Lib.hid ((six_below HB3.out (b := w.heap.size + 1) (by omega) { had := false, did := true, val := ⟨#[]⟩ } (.slice none 0 0)))
      have HRe : Hid (RpAt (six w3 (w.heap.size + 1) { had := false, did := true, val := ⟨#[]⟩ } (.slice none 0 0)) (w.heap.size + 1) { had := false, did := true, val := ⟨#[]⟩ } (.slice none 0 0)) := Lib.hid ((HR3.out.six { had := false, did := true, val := ⟨#[]⟩ } (.slice none 0 0)))
      have HLe := Lib.hid (Lst.of_row (R3.out.six HR3.out { had := false, did := true, val := ⟨#[]⟩ } (.slice none 0 0)))
      generalize (six w3 (w.heap.size + 1) { had := false, did := true, val := ⟨#[]⟩ } (.slice none 0 0)) = we at HBe HRe HLe ⊢
      obtain ⟨g0, g1, g2, g3, g4, g5⟩ := HRe.out.cells
      exact bodyPost_ret (v := .tuple #[v3, .agg #[.int .i64 0, .bool false, .bool true, .string ⟨#[]⟩, .int .i64 0, (.slice none 0 0)]]) (by simp [results, Try.results9, go_sem, g0, g1, g2, g3, g4, g5]) rfl ⟨_, _, rfl, HLe.out, Lst.nil _, HBe.out⟩
  | some x =>
    simp only [Option.getD_some, Option.isSome_some] at hG ⊢
    have HG := Lib.hid hG; clear hG
    cases hc : Dc.ke x old
    all_goals
      have hc1 : (x.toList == old.toList) = Dc.ke x old := rfl
      rw [hc] at hc1
      rcases hk with rfl | rfl
      all_goals try (simp [Dc.didB, hc] at hd; done)
      all_goals clear hd
      all_goals try clear hc
      all_goals
        go_enter Try.func9, Try.ntmps9
        go_wp2_with fail
        with_reducible refine HL.out.mono ?_
        rintro e w1 ⟨rfl, hb1⟩
        have HO1 := Lib.hid (HO.out.keep (hb1.block w.heap.size (by simp; omega)))
        have HR1 := Lib.hid (HRp.out.keep (hb1.block (w.heap.size + 1) (by simp)))
        obtain ⟨c0, c1, c2, c3⟩ := HO1.out.cells
        have HB1 := Lib.hid (HB0.out.trans (hb1.mono (by have := HZ0.out; omega)))
        have HG1 := Lib.hid (HG.out w1 (HV.out.below HB1.out))
        have hz1 := hb1.size
        simp only [World.size_alloc] at hz1
        have a0 : ∀ o, (w1.alloc o).cell? ⟨w.heap.size, 0, none⟩ = _ := fun o => (World.cell?_alloc_lt w1 o ⟨w.heap.size, 0, none⟩ (by show w.heap.size < _; omega)).trans c0
        have a1 : ∀ o, (w1.alloc o).cell? ⟨w.heap.size, 1, none⟩ = _ := fun o => (World.cell?_alloc_lt w1 o ⟨w.heap.size, 1, none⟩ (by show w.heap.size < _; omega)).trans c1
        have a2 : ∀ o, (w1.alloc o).cell? ⟨w.heap.size, 2, none⟩ = _ := fun o => (World.cell?_alloc_lt w1 o ⟨w.heap.size, 2, none⟩ (by show w.heap.size < _; omega)).trans c2
        have a3 : ∀ o, (w1.alloc o).cell? ⟨w.heap.size, 3, none⟩ = _ := fun o => (World.cell?_alloc_lt w1 o ⟨w.heap.size, 3, none⟩ (by show w.heap.size < _; omega)).trans c3
        clear hb1
        go_wp2_with fail
        with_reducible refine HG1.out.mono ?_
        rintro e w2 ⟨rfl, rfl⟩
        go_wp2
        obtain ⟨W, hW⟩ : ∃ W, w1.alloc (.cells #[.int .i64 0, .bool true, .bool true, .string x, .int .i64 0, .slice none 0 0] 30) = W := ⟨_, rfl⟩
        rw [hW]
        have HRn : Hid (RpAt W w1.heap.size { had := true, did := true, val := x } (.slice none 0 0)) := Lib.hid (hW ▸ rp_new w1 { had := true, did := true, val := x } (.slice none 0 0))
        have HR2 : Hid (RpAt W (w.heap.size + 1) {} (.slice none 0 0)) := Lib.hid (HR1.out.keep (hW ▸ Below.heap_alloc w1 _ _ HR1.out.lt))
        have HO2 : Hid (OpAt W w.heap.size _ key val old) := Lib.hid (HO1.out.keep (hW ▸ Below.heap_alloc w1 _ _ HO1.out.lt))
        have HB2 : Hid (Below w.heap.size w W) := Lib.hid (hW ▸ HB1.out.alloc HB1.out.size _)
        have hne : w1.heap.size ≠ w.heap.size + 1 := by omega
        have hne2 : w.heap.size + 1 ≠ w1.heap.size := by omega
        clear a0 a1 a2 a3 c0 c1 c2 c3 hW HO1 HR1 HB1 HG1
        have HK : Hid (∀ w' : World, w'.heap[w.heap.size]? = W.heap[w.heap.size]? → w'.heap[w1.heap.size]? = W.heap[w1.heap.size]? → (w'.cell? ⟨w.heap.size, 1, none⟩ = some (.string key) ∧ w'.cell? ⟨w.heap.size, 2, none⟩ = some (.string val)) ∧ w'.cell? ⟨w1.heap.size, 0, none⟩ = some (.int .i64 0) ∧ w'.cell? ⟨w1.heap.size, 1, none⟩ = some (.bool true) ∧ w'.cell? ⟨w1.heap.size, 2, none⟩ = some (.bool true) ∧ w'.cell? ⟨w1.heap.size, 3, none⟩ = some (.string x) ∧ w'.cell? ⟨w1.heap.size, 4, none⟩ = some (.int .i64 0) ∧ w'.cell? ⟨w1.heap.size, 5, none⟩ = some (.slice none 0 0)) := Lib.hid (fun w' h1 h2 => ⟨⟨(HO2.out.keep h1).cells.2.1, (HO2.out.keep h1).cells.2.2.1⟩, (HRn.out.keep h2).cells⟩)
        have HLd : Hid (Lst W.drew (.slice va l.length vc) l) := Lib.hid ((HV.out.below HB2.out).below (Below.refl _ _).drew)
        have HT1 := Lib.hid (HT.out _ HLd.out)
        obtain ⟨⟨p1, p2⟩, n0, n1, n2, n3, n4, n5⟩ := HK.out W rfl rfl
        have HQ : Hid (∀ w3, Below W.drew.heap.size W.drew w3 → RpAt w3 (w.heap.size + 1) {} (.slice none 0 0)) := Lib.hid (fun w3 hb3 => HR2.out.keep (hb3.block (w.heap.size + 1) HR2.out.lt))
        have HZ : Hid (∀ w3, Below W.drew.heap.size W.drew w3 → ∀ q, q < W.heap.size → w3.heap[q]? = W.heap[q]?) := Lib.hid (fun w3 hb3 q hq => hb3.block q hq)
        have K0 := Lib.hid (HK.out W.drew rfl rfl)
        go_region_held3 (fun w' => (w'.cell? ⟨w.heap.size, 1, none⟩ = some (.string key) ∧ w'.cell? ⟨w.heap.size, 2, none⟩ = some (.string val)) ∧ w'.cell? ⟨w1.heap.size, 0, none⟩ = some (.int .i64 0) ∧ w'.cell? ⟨w1.heap.size, 1, none⟩ = some (.bool true) ∧ w'.cell? ⟨w1.heap.size, 2, none⟩ = some (.bool true) ∧ w'.cell? ⟨w1.heap.size, 3, none⟩ = some (.string x) ∧ w'.cell? ⟨w1.heap.size, 4, none⟩ = some (.int .i64 0) ∧ w'.cell? ⟨w1.heap.size, 5, none⟩ = some (.slice none 0 0))
          (first | with_reducible exact K3.out | with_reducible exact K0.out | with_reducible exact K6.out | fail)
          (first | (go_at_call 19; (with_reducible refine HT1.out.mono ?_); rintro e w3 ⟨v3, rfl, hr3, hb3⟩; have B3 := Lib.hid hb3; have R3 := Lib.hid hr3; clear hb3 hr3; have K3 := Lib.hid (HK.out w3 (HZ.out _ B3.out _ HO2.out.lt) (HZ.out _ B3.out _ HRn.out.lt)); have K6 := Lib.hid (HK.out (six w3 (w.heap.size + 1) { had := true, did := true, val := x } (.slice none 0 0)) ((six_block (by omega) { had := true, did := true, val := x } (.slice none 0 0)).trans (HZ.out _ B3.out _ HO2.out.lt)) ((six_block (by omega) { had := true, did := true, val := x } (.slice none 0 0)).trans (HZ.out _ B3.out _ HRn.out.lt))); dsimp only [six] at K6; obtain ⟨f0, f1, f2, f3, f4, f5⟩ := (HQ.out _ B3.out).cells; have fz := (HQ.out _ B3.out).frozen) | fail)
        clear K0 K3 K6 p1 p2 n0 n1 n2 n3 n4 n5
        go_wp2
        clear f0 f1 f2 f3 f4 f5 fz
        have HB3 : Hid (Below w.heap.size w w3) := Lib.hid (HB2.out.drew.trans (B3.out.mono HB2.out.size))
        have HR3 := Lib.hid (HQ.out _ B3.out)
        show bodyPost _ _ _ _ _ (six w3 (w.heap.size + 1) { had := true, did := true, val := x } (.slice none 0 0))
        have HBe : Hid (Below w.heap.size w (six w3 (w.heap.size + 1) { had := true, did := true, val := x } (.slice none 0 0))) := Lib.hid ((six_below HB3.out (b := w.heap.size + 1) (by omega) { had := true, did := true, val := x } (.slice none 0 0)))
        have HRe : Hid (RpAt (six w3 (w.heap.size + 1) { had := true, did := true, val := x } (.slice none 0 0)) (w.heap.size + 1) { had := true, did := true, val := x } (.slice none 0 0)) := Lib.hid ((HR3.out.six { had := true, did := true, val := x } (.slice none 0 0)))
        have HLe := Lib.hid (Lst.of_row (R3.out.six HR3.out { had := true, did := true, val := x } (.slice none 0 0)))
        generalize (six w3 (w.heap.size + 1) { had := true, did := true, val := x } (.slice none 0 0)) = we at HBe HRe HLe ⊢
        obtain ⟨g0, g1, g2, g3, g4, g5⟩ := HRe.out.cells
        exact bodyPost_ret (v := .tuple #[v3, .agg #[.int .i64 0, .bool true, .bool true, .string x, .int .i64 0, (.slice none 0 0)]]) (by simp [results, Try.results9, go_sem, g0, g1, g2, g3, g4, g5]) rfl ⟨_, _, rfl, HLe.out, Lst.nil _, HBe.out⟩
set_option maxRecDepth 100000 in
set_option maxHeartbeats 4000000 in
theorem rdo_put (v : Value) (l : List Pr) (k : Int) (key val old : ByteArray) (w : World) (h : Lst w v l) (hl : l.length ≤ 1000) (hlong : Dc.longB k key val = false) (hk : k = 2 ∨ k = 3 ∨ k = 4 ∨ k = 5) (hd : Dc.didB k old (Dc.gt l key) = true) :
    Calls Try.prog 9 #[v, .agg #[.int .i64 k, .string key, .string val, .string old]] w (Does (Dc.put l key val) (Dc.keyR l k key old) w) := by
  have hkr : Dc.keyR l k key old = { had := (Dc.gt l key).isSome, did := true, val := (Dc.gt l key).getD ⟨#[]⟩ } := by unfold Dc.keyR; rw [hd]
  rw [hkr]; clear hkr
  have HB0 := Lib.hid (two_below w k key val old)
  have HO := Lib.hid (two_op w k key val old)
  have HRp := Lib.hid (two_rp w k key val old)
  have HZ0 := Lib.hid (two_size w k key val old)
  have HV := Lib.hid h
  obtain ⟨va, vc, rfl, -⟩ := h
  have hL := rlong_any k key val old (two w k key val old)
  rw [hlong] at hL
  have HL := Lib.hid hL; clear hL hlong
  unfold two at HL HO HRp HB0 HZ0
  have HT : Hid (∀ w1, Lst w1 (.slice va l.length vc) l → Calls Try.prog 23 #[.slice va l.length vc, .string key, .string val] w1 (Tells (Dc.put l key val) w1)) := Lib.hid (fun w1 h1 => rput_any _ l key val w1 h1 (by omega))
  generalize Dc.put l key val = m at *
  have hG : ∀ w1, Lst w1 (.slice va l.length vc) l → Calls Try.prog 20 #[.slice va l.length vc, .string key] w1 (Same (ans (Dc.gt l key)) w1) := fun w1 h1 => rget_any _ l key w1 h1 (by omega)
  simp only [ans_eq] at hG
  generalize Dc.gt l key = g at *
  cases g with
  | none =>
    simp only [Option.getD_none, Option.isSome_none] at hG ⊢
    have HG := Lib.hid hG; clear hG
    rcases hk with rfl | rfl | rfl | rfl
    all_goals try (simp [Dc.didB] at hd; done)
    all_goals clear hd
    all_goals
      go_enter Try.func9, Try.ntmps9
      go_wp2_with fail
      with_reducible refine HL.out.mono ?_
      rintro e w1 ⟨rfl, hb1⟩
      have HO1 := Lib.hid (HO.out.keep (hb1.block w.heap.size (by simp; omega)))
      have HR1 := Lib.hid (HRp.out.keep (hb1.block (w.heap.size + 1) (by simp)))
      obtain ⟨c0, c1, c2, c3⟩ := HO1.out.cells
      have HB1 := Lib.hid (HB0.out.trans (hb1.mono (by have := HZ0.out; omega)))
      have HG1 := Lib.hid (HG.out w1 (HV.out.below HB1.out))
      have hz1 := hb1.size
      simp only [World.size_alloc] at hz1
      have a0 : ∀ o, (w1.alloc o).cell? ⟨w.heap.size, 0, none⟩ = _ := fun o => (World.cell?_alloc_lt w1 o ⟨w.heap.size, 0, none⟩ (by show w.heap.size < _; omega)).trans c0
      have a1 : ∀ o, (w1.alloc o).cell? ⟨w.heap.size, 1, none⟩ = _ := fun o => (World.cell?_alloc_lt w1 o ⟨w.heap.size, 1, none⟩ (by show w.heap.size < _; omega)).trans c1
      have a2 : ∀ o, (w1.alloc o).cell? ⟨w.heap.size, 2, none⟩ = _ := fun o => (World.cell?_alloc_lt w1 o ⟨w.heap.size, 2, none⟩ (by show w.heap.size < _; omega)).trans c2
      have a3 : ∀ o, (w1.alloc o).cell? ⟨w.heap.size, 3, none⟩ = _ := fun o => (World.cell?_alloc_lt w1 o ⟨w.heap.size, 3, none⟩ (by show w.heap.size < _; omega)).trans c3
      clear hb1
      go_wp2_with fail
      with_reducible refine HG1.out.mono ?_
      rintro e w2 ⟨rfl, rfl⟩
      go_wp2
      obtain ⟨W, hW⟩ : ∃ W, w1.alloc (.cells #[.int .i64 0, .bool false, .bool true, .string ⟨#[]⟩, .int .i64 0, .slice none 0 0] 30) = W := ⟨_, rfl⟩
      rw [hW]
      have HRn : Hid (RpAt W w1.heap.size { had := false, did := true, val := ⟨#[]⟩ } (.slice none 0 0)) := Lib.hid (hW ▸ rp_new w1 { had := false, did := true, val := ⟨#[]⟩ } (.slice none 0 0))
      have HR2 : Hid (RpAt W (w.heap.size + 1) {} (.slice none 0 0)) := Lib.hid (HR1.out.keep (hW ▸ Below.heap_alloc w1 _ _ HR1.out.lt))
      have HO2 : Hid (OpAt W w.heap.size _ key val old) := Lib.hid (HO1.out.keep (hW ▸ Below.heap_alloc w1 _ _ HO1.out.lt))
      have HB2 : Hid (Below w.heap.size w W) := Lib.hid (hW ▸ HB1.out.alloc HB1.out.size _)
      have hne : w1.heap.size ≠ w.heap.size + 1 := by omega
      have hne2 : w.heap.size + 1 ≠ w1.heap.size := by omega
      clear a0 a1 a2 a3 c0 c1 c2 c3 hW HO1 HR1 HB1 HG1
      have HK : Hid (∀ w' : World, w'.heap[w.heap.size]? = W.heap[w.heap.size]? → w'.heap[w1.heap.size]? = W.heap[w1.heap.size]? → (w'.cell? ⟨w.heap.size, 1, none⟩ = some (.string key) ∧ w'.cell? ⟨w.heap.size, 2, none⟩ = some (.string val)) ∧ w'.cell? ⟨w1.heap.size, 0, none⟩ = some (.int .i64 0) ∧ w'.cell? ⟨w1.heap.size, 1, none⟩ = some (.bool false) ∧ w'.cell? ⟨w1.heap.size, 2, none⟩ = some (.bool true) ∧ w'.cell? ⟨w1.heap.size, 3, none⟩ = some (.string ⟨#[]⟩) ∧ w'.cell? ⟨w1.heap.size, 4, none⟩ = some (.int .i64 0) ∧ w'.cell? ⟨w1.heap.size, 5, none⟩ = some (.slice none 0 0)) := Lib.hid (fun w' h1 h2 => ⟨⟨(HO2.out.keep h1).cells.2.1, (HO2.out.keep h1).cells.2.2.1⟩, (HRn.out.keep h2).cells⟩)
      have HLd : Hid (Lst W.drew (.slice va l.length vc) l) := Lib.hid ((HV.out.below HB2.out).below (Below.refl _ _).drew)
      have HT1 := Lib.hid (HT.out _ HLd.out)
      obtain ⟨⟨p1, p2⟩, n0, n1, n2, n3, n4, n5⟩ := HK.out W rfl rfl
      have HQ : Hid (∀ w3, Below W.drew.heap.size W.drew w3 → RpAt w3 (w.heap.size + 1) {} (.slice none 0 0)) := Lib.hid (fun w3 hb3 => HR2.out.keep (hb3.block (w.heap.size + 1) HR2.out.lt))
      have HZ : Hid (∀ w3, Below W.drew.heap.size W.drew w3 → ∀ q, q < W.heap.size → w3.heap[q]? = W.heap[q]?) := Lib.hid (fun w3 hb3 q hq => hb3.block q hq)
      have K0 := Lib.hid (HK.out W.drew rfl rfl)
      go_region_held3 (fun w' => (w'.cell? ⟨w.heap.size, 1, none⟩ = some (.string key) ∧ w'.cell? ⟨w.heap.size, 2, none⟩ = some (.string val)) ∧ w'.cell? ⟨w1.heap.size, 0, none⟩ = some (.int .i64 0) ∧ w'.cell? ⟨w1.heap.size, 1, none⟩ = some (.bool false) ∧ w'.cell? ⟨w1.heap.size, 2, none⟩ = some (.bool true) ∧ w'.cell? ⟨w1.heap.size, 3, none⟩ = some (.string ⟨#[]⟩) ∧ w'.cell? ⟨w1.heap.size, 4, none⟩ = some (.int .i64 0) ∧ w'.cell? ⟨w1.heap.size, 5, none⟩ = some (.slice none 0 0))
        (first | with_reducible exact K3.out | with_reducible exact K0.out | with_reducible exact K6.out | fail)
        (first | (go_at_call 23; (with_reducible refine HT1.out.mono ?_); rintro e w3 ⟨v3, rfl, hr3, hb3⟩; have B3 := Lib.hid hb3; have R3 := Lib.hid hr3; clear hb3 hr3; have K3 := Lib.hid (HK.out w3 (HZ.out _ B3.out _ HO2.out.lt) (HZ.out _ B3.out _ HRn.out.lt)); have K6 := Lib.hid (HK.out (six w3 (w.heap.size + 1) { had := false, did := true, val := ⟨#[]⟩ } (.slice none 0 0)) ((six_block (by omega) { had := false, did := true, val := ⟨#[]⟩ } (.slice none 0 0)).trans (HZ.out _ B3.out _ HO2.out.lt)) ((six_block (by omega) { had := false, did := true, val := ⟨#[]⟩ } (.slice none 0 0)).trans (HZ.out _ B3.out _ HRn.out.lt))); dsimp only [six] at K6; obtain ⟨f0, f1, f2, f3, f4, f5⟩ := (HQ.out _ B3.out).cells; have fz := (HQ.out _ B3.out).frozen) | fail)
      clear K0 K3 K6 p1 p2 n0 n1 n2 n3 n4 n5
      go_wp2
      clear f0 f1 f2 f3 f4 f5 fz
      have HB3 : Hid (Below w.heap.size w w3) := Lib.hid (HB2.out.drew.trans (B3.out.mono HB2.out.size))
      have HR3 := Lib.hid (HQ.out _ B3.out)
      show bodyPost _ _ _ _ _ (six w3 (w.heap.size + 1) { had := false, did := true, val := ⟨#[]⟩ } (.slice none 0 0))
      have HBe : Hid (Below w.heap.size w (six w3 (w.heap.size + 1) { had := false, did := true, val := ⟨#[]⟩ } (.slice none 0 0))) := Lib.hid ((six_below HB3.out (b := w.heap.size + 1) (by omega) { had := false, did := true, val := ⟨#[]⟩ } (.slice none 0 0)))
      have HRe : Hid (RpAt (six w3 (w.heap.size + 1) { had := false, did := true, val := ⟨#[]⟩ } (.slice none 0 0)) (w.heap.size + 1) { had := false, did := true, val := ⟨#[]⟩ } (.slice none 0 0)) := Lib.hid ((HR3.out.six { had := false, did := true, val := ⟨#[]⟩ } (.slice none 0 0)))
      have HLe := Lib.hid (Lst.of_row (R3.out.six HR3.out { had := false, did := true, val := ⟨#[]⟩ } (.slice none 0 0)))
      generalize (six w3 (w.heap.size + 1) { had := false, did := true, val := ⟨#[]⟩ } (.slice none 0 0)) = we at HBe HRe HLe ⊢
      obtain ⟨g0, g1, g2, g3, g4, g5⟩ := HRe.out.cells
      exact bodyPost_ret (v := .tuple #[v3, .agg #[.int .i64 0, .bool false, .bool true, .string ⟨#[]⟩, .int .i64 0, (.slice none 0 0)]]) (by simp [results, Try.results9, go_sem, g0, g1, g2, g3, g4, g5]) rfl ⟨_, _, rfl, HLe.out, Lst.nil _, HBe.out⟩
  | some x =>
    simp only [Option.getD_some, Option.isSome_some] at hG ⊢
    have HG := Lib.hid hG; clear hG
    cases hc : Dc.ke x old
    all_goals
      have hc1 : (x.toList == old.toList) = Dc.ke x old := rfl
      rw [hc] at hc1
      rcases hk with rfl | rfl | rfl | rfl
      all_goals try (simp [Dc.didB, hc] at hd; done)
      all_goals clear hd
      all_goals try clear hc
      all_goals
        go_enter Try.func9, Try.ntmps9
        go_wp2_with fail
        with_reducible refine HL.out.mono ?_
        rintro e w1 ⟨rfl, hb1⟩
        have HO1 := Lib.hid (HO.out.keep (hb1.block w.heap.size (by simp; omega)))
        have HR1 := Lib.hid (HRp.out.keep (hb1.block (w.heap.size + 1) (by simp)))
        obtain ⟨c0, c1, c2, c3⟩ := HO1.out.cells
        have HB1 := Lib.hid (HB0.out.trans (hb1.mono (by have := HZ0.out; omega)))
        have HG1 := Lib.hid (HG.out w1 (HV.out.below HB1.out))
        have hz1 := hb1.size
        simp only [World.size_alloc] at hz1
        have a0 : ∀ o, (w1.alloc o).cell? ⟨w.heap.size, 0, none⟩ = _ := fun o => (World.cell?_alloc_lt w1 o ⟨w.heap.size, 0, none⟩ (by show w.heap.size < _; omega)).trans c0
        have a1 : ∀ o, (w1.alloc o).cell? ⟨w.heap.size, 1, none⟩ = _ := fun o => (World.cell?_alloc_lt w1 o ⟨w.heap.size, 1, none⟩ (by show w.heap.size < _; omega)).trans c1
        have a2 : ∀ o, (w1.alloc o).cell? ⟨w.heap.size, 2, none⟩ = _ := fun o => (World.cell?_alloc_lt w1 o ⟨w.heap.size, 2, none⟩ (by show w.heap.size < _; omega)).trans c2
        have a3 : ∀ o, (w1.alloc o).cell? ⟨w.heap.size, 3, none⟩ = _ := fun o => (World.cell?_alloc_lt w1 o ⟨w.heap.size, 3, none⟩ (by show w.heap.size < _; omega)).trans c3
        clear hb1
        go_wp2_with fail
        with_reducible refine HG1.out.mono ?_
        rintro e w2 ⟨rfl, rfl⟩
        go_wp2
        obtain ⟨W, hW⟩ : ∃ W, w1.alloc (.cells #[.int .i64 0, .bool true, .bool true, .string x, .int .i64 0, .slice none 0 0] 30) = W := ⟨_, rfl⟩
        rw [hW]
        have HRn : Hid (RpAt W w1.heap.size { had := true, did := true, val := x } (.slice none 0 0)) := Lib.hid (hW ▸ rp_new w1 { had := true, did := true, val := x } (.slice none 0 0))
        have HR2 : Hid (RpAt W (w.heap.size + 1) {} (.slice none 0 0)) := Lib.hid (HR1.out.keep (hW ▸ Below.heap_alloc w1 _ _ HR1.out.lt))
        have HO2 : Hid (OpAt W w.heap.size _ key val old) := Lib.hid (HO1.out.keep (hW ▸ Below.heap_alloc w1 _ _ HO1.out.lt))
        have HB2 : Hid (Below w.heap.size w W) := Lib.hid (hW ▸ HB1.out.alloc HB1.out.size _)
        have hne : w1.heap.size ≠ w.heap.size + 1 := by omega
        have hne2 : w.heap.size + 1 ≠ w1.heap.size := by omega
        clear a0 a1 a2 a3 c0 c1 c2 c3 hW HO1 HR1 HB1 HG1
        have HK : Hid (∀ w' : World, w'.heap[w.heap.size]? = W.heap[w.heap.size]? → w'.heap[w1.heap.size]? = W.heap[w1.heap.size]? → (w'.cell? ⟨w.heap.size, 1, none⟩ = some (.string key) ∧ w'.cell? ⟨w.heap.size, 2, none⟩ = some (.string val)) ∧ w'.cell? ⟨w1.heap.size, 0, none⟩ = some (.int .i64 0) ∧ w'.cell? ⟨w1.heap.size, 1, none⟩ = some (.bool true) ∧ w'.cell? ⟨w1.heap.size, 2, none⟩ = some (.bool true) ∧ w'.cell? ⟨w1.heap.size, 3, none⟩ = some (.string x) ∧ w'.cell? ⟨w1.heap.size, 4, none⟩ = some (.int .i64 0) ∧ w'.cell? ⟨w1.heap.size, 5, none⟩ = some (.slice none 0 0)) := Lib.hid (fun w' h1 h2 => ⟨⟨(HO2.out.keep h1).cells.2.1, (HO2.out.keep h1).cells.2.2.1⟩, (HRn.out.keep h2).cells⟩)
        have HLd : Hid (Lst W.drew (.slice va l.length vc) l) := Lib.hid ((HV.out.below HB2.out).below (Below.refl _ _).drew)
        have HT1 := Lib.hid (HT.out _ HLd.out)
        obtain ⟨⟨p1, p2⟩, n0, n1, n2, n3, n4, n5⟩ := HK.out W rfl rfl
        have HQ : Hid (∀ w3, Below W.drew.heap.size W.drew w3 → RpAt w3 (w.heap.size + 1) {} (.slice none 0 0)) := Lib.hid (fun w3 hb3 => HR2.out.keep (hb3.block (w.heap.size + 1) HR2.out.lt))
        have HZ : Hid (∀ w3, Below W.drew.heap.size W.drew w3 → ∀ q, q < W.heap.size → w3.heap[q]? = W.heap[q]?) := Lib.hid (fun w3 hb3 q hq => hb3.block q hq)
        have K0 := Lib.hid (HK.out W.drew rfl rfl)
        go_region_held3 (fun w' => (w'.cell? ⟨w.heap.size, 1, none⟩ = some (.string key) ∧ w'.cell? ⟨w.heap.size, 2, none⟩ = some (.string val)) ∧ w'.cell? ⟨w1.heap.size, 0, none⟩ = some (.int .i64 0) ∧ w'.cell? ⟨w1.heap.size, 1, none⟩ = some (.bool true) ∧ w'.cell? ⟨w1.heap.size, 2, none⟩ = some (.bool true) ∧ w'.cell? ⟨w1.heap.size, 3, none⟩ = some (.string x) ∧ w'.cell? ⟨w1.heap.size, 4, none⟩ = some (.int .i64 0) ∧ w'.cell? ⟨w1.heap.size, 5, none⟩ = some (.slice none 0 0))
          (first | with_reducible exact K3.out | with_reducible exact K0.out | with_reducible exact K6.out | fail)
          (first | (go_at_call 23; (with_reducible refine HT1.out.mono ?_); rintro e w3 ⟨v3, rfl, hr3, hb3⟩; have B3 := Lib.hid hb3; have R3 := Lib.hid hr3; clear hb3 hr3; have K3 := Lib.hid (HK.out w3 (HZ.out _ B3.out _ HO2.out.lt) (HZ.out _ B3.out _ HRn.out.lt)); have K6 := Lib.hid (HK.out (six w3 (w.heap.size + 1) { had := true, did := true, val := x } (.slice none 0 0)) ((six_block (by omega) { had := true, did := true, val := x } (.slice none 0 0)).trans (HZ.out _ B3.out _ HO2.out.lt)) ((six_block (by omega) { had := true, did := true, val := x } (.slice none 0 0)).trans (HZ.out _ B3.out _ HRn.out.lt))); dsimp only [six] at K6; obtain ⟨f0, f1, f2, f3, f4, f5⟩ := (HQ.out _ B3.out).cells; have fz := (HQ.out _ B3.out).frozen) | fail)
        clear K0 K3 K6 p1 p2 n0 n1 n2 n3 n4 n5
        go_wp2
        clear f0 f1 f2 f3 f4 f5 fz
        have HB3 : Hid (Below w.heap.size w w3) := Lib.hid (HB2.out.drew.trans (B3.out.mono HB2.out.size))
        have HR3 := Lib.hid (HQ.out _ B3.out)
        show bodyPost _ _ _ _ _ (six w3 (w.heap.size + 1) { had := true, did := true, val := x } (.slice none 0 0))
        have HBe : Hid (Below w.heap.size w (six w3 (w.heap.size + 1) { had := true, did := true, val := x } (.slice none 0 0))) := Lib.hid ((six_below HB3.out (b := w.heap.size + 1) (by omega) { had := true, did := true, val := x } (.slice none 0 0)))
        have HRe : Hid (RpAt (six w3 (w.heap.size + 1) { had := true, did := true, val := x } (.slice none 0 0)) (w.heap.size + 1) { had := true, did := true, val := x } (.slice none 0 0)) := Lib.hid ((HR3.out.six { had := true, did := true, val := x } (.slice none 0 0)))
        have HLe := Lib.hid (Lst.of_row (R3.out.six HR3.out { had := true, did := true, val := x } (.slice none 0 0)))
        generalize (six w3 (w.heap.size + 1) { had := true, did := true, val := x } (.slice none 0 0)) = we at HBe HRe HLe ⊢
        obtain ⟨g0, g1, g2, g3, g4, g5⟩ := HRe.out.cells
        exact bodyPost_ret (v := .tuple #[v3, .agg #[.int .i64 0, .bool true, .bool true, .string x, .int .i64 0, (.slice none 0 0)]]) (by simp [results, Try.results9, go_sem, g0, g1, g2, g3, g4, g5]) rfl ⟨_, _, rfl, HLe.out, Lst.nil _, HBe.out⟩
theorem rdo_any (v : Value) (l : List Pr) (k : Int) (key val old : ByteArray) (w : World) (h : Lst w v l) (hl : l.length ≤ 1000) :
    Calls Try.prog 9 #[v, .agg #[.int .i64 k, .string key, .string val, .string old]] w (Does (Dc.doM l k key val old) (Dc.doR l k key val old) w) := by
  unfold Dc.doM Dc.doR
  cases hlong : Dc.longB k key val
  · simp only [Bool.false_eq_true, if_false]
    by_cases hk : 1 ≤ k ∧ k ≤ 7
    · rw [if_pos hk, if_pos hk]
      unfold Dc.keyM
      cases hd : Dc.didB k old (Dc.gt l key)
      · simp only [Bool.false_eq_true, if_false]
        refine rdo_no v l k key val old w h hl hlong ?_ hd
        rcases (by omega : k = 2 ∨ (k = 1 ∨ k = 3 ∨ k = 4 ∨ k = 5 ∨ k = 6 ∨ k = 7)) with e | e
        · rw [e] at hd; simp [Dc.didB] at hd
        · exact e
      · simp only [if_true]
        by_cases h6 : 6 ≤ k
        · rw [if_pos h6]; exact rdo_del v l k key val old w h hl hlong (by omega) hd
        · rw [if_neg h6]
          refine rdo_put v l k key val old w h hl hlong ?_ hd
          rcases (by omega : k = 1 ∨ (k = 2 ∨ k = 3 ∨ k = 4 ∨ k = 5)) with e | e
          · rw [e] at hd; simp [Dc.didB] at hd
          · exact e
    rw [if_neg hk, if_neg hk]
    by_cases h8 : k = 8
    · rw [if_neg (by omega), if_pos h8]; exact rdo_len v l k key val old w h hlong h8
    rw [if_neg h8]
    by_cases h9 : k = 9
    · rw [if_pos h9, if_pos h9]; exact rdo_clear v l k key val old w h hlong h9
    rw [if_neg h9, if_neg h9]
    by_cases h10 : k = 10
    · rw [if_pos h10]; exact rdo_range v l k key val old w h hlong h10
    rw [if_neg h10]
    by_cases h11 : k = 11
    · rw [if_pos h11]; exact rdo_flush v l k key val old w h hlong h11
    rw [if_neg h11]
    rcases (by omega : k < 1 ∨ 11 < k) with e | e
    · exact rdo_low v l k key val old w h e
    · exact rdo_high v l k key val old w h e
  · simp only [if_true]
    refine rdo_long v l k key val old w h hlong ?_
    unfold Dc.longB at hlong
    simp only [Bool.or_eq_true, Bool.and_eq_true, decide_eq_true_eq] at hlong
    omega
end Go.Proofs.Ytigopifioijjlaa
