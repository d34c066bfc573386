/-
  Several texts in one: The walks of Note, the program's and the document's; The walks of Cas, Add, Free, Size, Used, Faults. By an AI agent.
-/
import Derived.Test.YtknefjigdlbacaaGreatDoorSkFAK
import Derived.Test.YtknefjigdlbacaaGreatDoorSkFAH
set_option linter.unusedSimpArgs false
set_option linter.unusedVariables false
namespace Go.Proofs.YtknefjigdlbacaaGreatDoor
open Go.RowKit Go.Maps
open Ac (A)
/-! ### Note -/
set_option maxRecDepth 100000 in
set_option maxHeartbeats 4000000 in
/-- crowd.Note. -/
theorem cnote_any (d : Nat) (l t : Int) (w : World) : Calls Tryz.prog 30 #[.agg #[.int .u64 (d : Int), .int .i64 l], .int .i64 t] w (Gives (av ⟨4, d, Tb.strp t, 0, 1⟩) w) := by
  have HB := Lib.hid (tboxed_below w (d : Int) l)
  have KS := Lib.hid (fun W => stripe_any t W)
  obtain ⟨W, hW⟩ : ∃ W, W = (zact (tboxed w (d : Int) l)).drew := ⟨_, rfl⟩
  have hc := (tboxed_cells (w := w) (w' := W) (d := (d : Int)) (l := l) (by rw [hW]; exact (zact_below (tboxed w (d : Int) l)).trans ((Below.refl _ (zact (tboxed w (d : Int) l))).drew.mono (zact_below _).size))).1
  obtain ⟨⟨g0, g1, g2, g3, g4⟩, ⟨e0, e1, e2, e3, e4⟩, hbb⟩ := abox (w := tboxed w (d : Int) l) (w1 := W) (by rw [hW]; exact (Below.refl _ (zact (tboxed w (d : Int) l))).drew)
  have hsz : (tboxed w (d : Int) l).heap.size = w.heap.size + 1 := World.size_alloc _ _
  obtain ⟨y, hy⟩ : ∃ y, y = w.heap.size := ⟨_, rfl⟩
  obtain ⟨z, hz⟩ : ∃ z, z = y + 1 := ⟨_, rfl⟩
  have hs : y < z := by omega
  rw [hsz, ← hy, ← hz] at g0 g1 g2 g3 g4 e0 e1 e2 e3 e4 hbb
  rw [← hy] at hc
  have HBB := Lib.hid hbb
  have hc0 := (tboxed_cells (w := w) (w' := tboxed w (d : Int) l) (d := (d : Int)) (l := l) (Below.refl _ _)).1
  rw [← hy] at hc0
  have HN := Lib.hid (fun v0 v1 v2 v3 v4 => ((hbb v0 v1 v2 v3 v4).cell (p := ⟨y, 0, none⟩) hs).trans hc0)
  clear hc0
  have HS := Lib.hid hs
  have hyz : (y == z) = false := by simp; omega
  clear hbb hs
  generalize hcc : Tb.strp t = c at KS ⊢
  clear hcc
  go_enter Tryz.func30, Tryz.ntmps30
  go_wp2
  refine wp_region_held_drew (S := fun w' => w'.cell? ⟨y, 0, none⟩ = some (.int .u64 (d : Int))) (by kernel_rfl) (by rw [show (w.alloc _ |>.alloc _).drew = W from hW.symm]; exact hc) (fun hS => ?_)
  revert hS
  rw [show ((w.alloc (.cells #[.int .u64 (d : Int), .int .i64 l] 24)).alloc (.cells #[.int .i64 0, .int .u64 0, .int .i64 0, .int .u64 0, .int .u64 0] 35)).drew = W from hW.symm, ← hy, ← hz]
  intro hS
  have HY := Lib.hid (show (tboxed w (d : Int) l).heap.size = z by omega)
  clear hW hy hz hsz hyz
  refine wpAnyH_take (i := 0) (v := .pointer (some ⟨y, 0, none⟩)) rfl (by kernel_rfl) (by kernel_rfl) (by kernel_rfl) (fun _ _ _ h => h) (Or.inl ⟨by kernel_rfl, fun w hS => by kernel_rfl⟩) hS ?_
  refine wpAnyH_take (i := 1) (v := .int .u64 (d : Int)) rfl (by kernel_rfl) (by kernel_rfl) (by kernel_rfl) (fun _ _ _ h => h) (Or.inl ⟨by kernel_rfl, fun w hS => by go_simp⟩) hS ?_
  refine wpAnyH_take (i := 2) (v := .int .i64 t) rfl (by kernel_rfl) (by kernel_rfl) (by kernel_rfl) (fun _ _ _ h => h) (Or.inl ⟨by kernel_rfl, fun w hS => by kernel_rfl⟩) hS ?_
  refine wpAnyH_ready (rs := [3]) (by kernel_rfl) (by simp) ?_
  refine AllReadyH.cons rfl (fun K hK => ?_) AllReadyH.nil
  go_simp
  go_at_call 79
  refine (KS.out _).mono ?_
  rintro e w3 ⟨rfl, rfl⟩
  refine hK.out _ _ hS (fun hS => ?_)
  clear hK K
  refine wpAnyH_take (i := 4) (v := .agg #[.int .i64 4, .int .u64 (d : Int), .int .i64 c, .int .u64 0, .int .u64 1]) rfl (by kernel_rfl) (by kernel_rfl) (by kernel_rfl) (fun _ _ _ h => h) (Or.inl ⟨by kernel_rfl, fun w hS => by kernel_rfl⟩) hS ?_
  refine wpAnyH_ready (rs := [5]) (by kernel_rfl) (by simp) ?_
  refine AllReadyH.cons rfl (fun K hK => ?_) AllReadyH.nil
  go_simp
  refine hK.out _ _ (HN.out _ _ _ _ _) (fun hS => ?_)
  clear hK K
  refine wpAnyH_done (by kernel_rfl) ?_ _
  go_wp2
  exact bodyPost_ret (v := av ⟨4, d, c, 0, 1⟩) (by simp [results, Tryz.results30, go_sem, e0, e1, e2, e3, e4]) rfl ⟨rfl, HB.out.trans ((HBB.out _ _ _ _ _).mono (by have := HB.out.size; have := HY.out; omega))⟩
set_option maxRecDepth 100000 in
set_option maxHeartbeats 4000000 in
/-- The document's Note. -/
theorem rnote_any (d : Nat) (l t : Int) (w : World) : Calls Tryz.prog 54 #[.agg #[.int .u64 (d : Int), .int .i64 l], .int .i64 t] w (Gives (av ⟨4, d, Tb.strp t, 0, 1⟩) w) := by
  have HB := Lib.hid (tboxed_below w (d : Int) l)
  have KS := Lib.hid (fun W => rstripe_any t W)
  obtain ⟨W, hW⟩ : ∃ W, W = (zact (tboxed w (d : Int) l)).drew := ⟨_, rfl⟩
  have hc := (tboxed_cells (w := w) (w' := W) (d := (d : Int)) (l := l) (by rw [hW]; exact (zact_below (tboxed w (d : Int) l)).trans ((Below.refl _ (zact (tboxed w (d : Int) l))).drew.mono (zact_below _).size))).1
  obtain ⟨⟨g0, g1, g2, g3, g4⟩, ⟨e0, e1, e2, e3, e4⟩, hbb⟩ := abox (w := tboxed w (d : Int) l) (w1 := W) (by rw [hW]; exact (Below.refl _ (zact (tboxed w (d : Int) l))).drew)
  have hsz : (tboxed w (d : Int) l).heap.size = w.heap.size + 1 := World.size_alloc _ _
  obtain ⟨y, hy⟩ : ∃ y, y = w.heap.size := ⟨_, rfl⟩
  obtain ⟨z, hz⟩ : ∃ z, z = y + 1 := ⟨_, rfl⟩
  have hs : y < z := by omega
  rw [hsz, ← hy, ← hz] at g0 g1 g2 g3 g4 e0 e1 e2 e3 e4 hbb
  rw [← hy] at hc
  have HBB := Lib.hid hbb
  have hc0 := (tboxed_cells (w := w) (w' := tboxed w (d : Int) l) (d := (d : Int)) (l := l) (Below.refl _ _)).1
  rw [← hy] at hc0
  have HN := Lib.hid (fun v0 v1 v2 v3 v4 => ((hbb v0 v1 v2 v3 v4).cell (p := ⟨y, 0, none⟩) hs).trans hc0)
  clear hc0
  have HS := Lib.hid hs
  have hyz : (y == z) = false := by simp; omega
  clear hbb hs
  generalize hcc : Tb.strp t = c at KS ⊢
  clear hcc
  go_enter Tryz.func54, Tryz.ntmps54
  go_wp2
  refine wp_region_held_drew (S := fun w' => w'.cell? ⟨y, 0, none⟩ = some (.int .u64 (d : Int))) (by kernel_rfl) (by rw [show (w.alloc _ |>.alloc _).drew = W from hW.symm]; exact hc) (fun hS => ?_)
  revert hS
  rw [show ((w.alloc (.cells #[.int .u64 (d : Int), .int .i64 l] 24)).alloc (.cells #[.int .i64 0, .int .u64 0, .int .i64 0, .int .u64 0, .int .u64 0] 35)).drew = W from hW.symm, ← hy, ← hz]
  intro hS
  have HY := Lib.hid (show (tboxed w (d : Int) l).heap.size = z by omega)
  clear hW hy hz hsz hyz
  refine wpAnyH_take (i := 0) (v := .pointer (some ⟨y, 0, none⟩)) rfl (by kernel_rfl) (by kernel_rfl) (by kernel_rfl) (fun _ _ _ h => h) (Or.inl ⟨by kernel_rfl, fun w hS => by kernel_rfl⟩) hS ?_
  refine wpAnyH_take (i := 1) (v := .int .u64 (d : Int)) rfl (by kernel_rfl) (by kernel_rfl) (by kernel_rfl) (fun _ _ _ h => h) (Or.inl ⟨by kernel_rfl, fun w hS => by go_simp⟩) hS ?_
  refine wpAnyH_take (i := 2) (v := .int .i64 t) rfl (by kernel_rfl) (by kernel_rfl) (by kernel_rfl) (fun _ _ _ h => h) (Or.inl ⟨by kernel_rfl, fun w hS => by kernel_rfl⟩) hS ?_
  refine wpAnyH_ready (rs := [3]) (by kernel_rfl) (by simp) ?_
  refine AllReadyH.cons rfl (fun K hK => ?_) AllReadyH.nil
  go_simp
  go_at_call 106
  refine (KS.out _).mono ?_
  rintro e w3 ⟨rfl, rfl⟩
  refine hK.out _ _ hS (fun hS => ?_)
  clear hK K
  refine wpAnyH_take (i := 4) (v := .agg #[.int .i64 4, .int .u64 (d : Int), .int .i64 c, .int .u64 0, .int .u64 1]) rfl (by kernel_rfl) (by kernel_rfl) (by kernel_rfl) (fun _ _ _ h => h) (Or.inl ⟨by kernel_rfl, fun w hS => by kernel_rfl⟩) hS ?_
  refine wpAnyH_ready (rs := [5]) (by kernel_rfl) (by simp) ?_
  refine AllReadyH.cons rfl (fun K hK => ?_) AllReadyH.nil
  go_simp
  refine hK.out _ _ (HN.out _ _ _ _ _) (fun hS => ?_)
  clear hK K
  refine wpAnyH_done (by kernel_rfl) ?_ _
  go_wp2
  exact bodyPost_ret (v := av ⟨4, d, c, 0, 1⟩) (by simp [results, Tryz.results54, go_sem, e0, e1, e2, e3, e4]) rfl ⟨rfl, HB.out.trans ((HBB.out _ _ _ _ _).mono (by have := HB.out.size; have := HY.out; omega))⟩
end Go.Proofs.YtknefjigdlbacaaGreatDoor
set_option linter.unusedSimpArgs false
namespace Go.Proofs.YtknefjigdlbacaaGreatDoor
open Go.RowKit Go.Maps
open Mm (Mem Blk)
set_option maxHeartbeats 1000000 in
theorem cas_bad {B : Nat} {w : World} {p : Nat} {S : Mem} {F : Nat → Prop} (h : Ax B w p S F) {b : Nat} (hb : b < 18446744073709551616) (i : Int) (hw : Mm.wrong S b i ≠ 0) (hf : S.faults ≤ 1000000000000) (o v : Int) :
    Calls Tryz.prog 115 #[.pointer (some ⟨p, 0, none⟩), .int .u64 (b : Int), .int .i64 i, .int .u64 o, .int .u64 v] w (Turns (we 0 (Mm.wrong S b i)) B p S.fault F w) := by
  obtain ⟨m, g, h, rfl⟩ := h
  have HR := Lib.hid (reach_bad h hb i hw hf)
  have HF := Lib.hid h.faulted
  have h0 : (Mm.wrong S b i != 0) = true := by simpa using hw
  clear h hb hw
  generalize Mm.wrong S b i = c at *
  unfold bad at HR
  go_enter Tryz.func115, Tryz.ntmps115
  go_wp2_with (go_at_call 144; refine HR.out.mono ?_; rintro e w' ⟨rfl, rfl⟩)
  go_ret2
  exact ⟨rfl, _, ⟨_, _, HF.out.1, rfl⟩, HF.out.2⟩
set_option maxHeartbeats 1000000 in
theorem add_bad {B : Nat} {w : World} {p : Nat} {S : Mem} {F : Nat → Prop} (h : Ax B w p S F) {b : Nat} (hb : b < 18446744073709551616) (i : Int) (hw : Mm.wrong S b i ≠ 0) (hf : S.faults ≤ 1000000000000) (v : Int) :
    Calls Tryz.prog 116 #[.pointer (some ⟨p, 0, none⟩), .int .u64 (b : Int), .int .i64 i, .int .u64 v] w (Turns (we 0 (Mm.wrong S b i)) B p S.fault F w) := by
  obtain ⟨m, g, h, rfl⟩ := h
  have HR := Lib.hid (reach_bad h hb i hw hf)
  have HF := Lib.hid h.faulted
  have h0 : (Mm.wrong S b i != 0) = true := by simpa using hw
  clear h hb hw
  generalize Mm.wrong S b i = c at *
  unfold bad at HR
  go_enter Tryz.func116, Tryz.ntmps116
  go_wp2_with (go_at_call 144; refine HR.out.mono ?_; rintro e w' ⟨rfl, rfl⟩)
  go_ret2
  exact ⟨rfl, _, ⟨_, _, HF.out.1, rfl⟩, HF.out.2⟩
set_option maxHeartbeats 1000000 in
theorem add_ok {B : Nat} {w : World} {p : Nat} {S : Mem} {F : Nat → Prop} (h : Ax B w p S F) {b : Nat} (hb : b < 18446744073709551616) {ws : List Int} (hg : Mm.get S.L b = some ws) (i : Nat) {x : Int} (hx : ws[i]? = some x) (v : Int) :
    Calls Tryz.prog 116 #[.pointer (some ⟨p, 0, none⟩), .int .u64 (b : Int), .int .i64 (i : Int), .int .u64 v] w (Turns (we x 0) B p (S.put b i (IntKind.u64.wrap (x + v))) F w) := by
  obtain ⟨m, g, h, rfl⟩ := h
  obtain ⟨hi, -⟩ := List.getElem?_eq_some_iff.1 hx
  obtain ⟨cp, hR⟩ := reach_ok h hb hg i hi
  have HR := Lib.hid hR; clear hR
  obtain ⟨cb, fb⟩ := h.cellb hg hx
  have HF := Lib.hid (h.stored hg i (IntKind.u64.wrap (x + v)))
  clear h hg hb hx
  generalize ws.length = n at *
  unfold sv at *
  have hiZ : (i : Int) < (n : Int) := by omega
  go_enter Tryz.func116, Tryz.ntmps116
  go_wp2_with (go_at_call 144; refine HR.out.mono ?_; rintro e w' ⟨rfl, rfl⟩)
  go_ret2
  exact ⟨rfl, _, ⟨_, _, HF.out.1, rfl⟩, HF.out.2⟩
set_option maxHeartbeats 1000000 in
theorem cas_yes {B : Nat} {w : World} {p : Nat} {S : Mem} {F : Nat → Prop} (h : Ax B w p S F) {b : Nat} (hb : b < 18446744073709551616) {ws : List Int} (hg : Mm.get S.L b = some ws) (i : Nat) {x : Int} (hx : ws[i]? = some x) (v : Int) :
    Calls Tryz.prog 115 #[.pointer (some ⟨p, 0, none⟩), .int .u64 (b : Int), .int .i64 (i : Int), .int .u64 x, .int .u64 v] w (Turns (we x 0) B p (S.put b i v) F w) := by
  obtain ⟨m, g, h, rfl⟩ := h
  obtain ⟨hi, -⟩ := List.getElem?_eq_some_iff.1 hx
  obtain ⟨cp, hR⟩ := reach_ok h hb hg i hi
  have HR := Lib.hid hR; clear hR
  obtain ⟨cb, fb⟩ := h.cellb hg hx
  have HF := Lib.hid (h.stored hg i v)
  clear h hg hb hx
  generalize ws.length = n at *
  unfold sv at *
  have hiZ : (i : Int) < (n : Int) := by omega
  go_enter Tryz.func115, Tryz.ntmps115
  go_wp2_with (go_at_call 144; refine HR.out.mono ?_; rintro e w' ⟨rfl, rfl⟩)
  go_ret2
  exact ⟨rfl, _, ⟨_, _, HF.out.1, rfl⟩, HF.out.2⟩
set_option maxHeartbeats 1000000 in
theorem cas_no {B : Nat} {w : World} {p : Nat} {S : Mem} {F : Nat → Prop} (h : Ax B w p S F) {b : Nat} (hb : b < 18446744073709551616) {ws : List Int} (hg : Mm.get S.L b = some ws) (i : Nat) {x : Int} (hx : ws[i]? = some x) (o v : Int) (ho : x ≠ o) :
    Calls Tryz.prog 115 #[.pointer (some ⟨p, 0, none⟩), .int .u64 (b : Int), .int .i64 (i : Int), .int .u64 o, .int .u64 v] w (Same (we x 0) w) := by
  obtain ⟨m, g, h, rfl⟩ := h
  obtain ⟨hi, -⟩ := List.getElem?_eq_some_iff.1 hx
  obtain ⟨cp, hR⟩ := reach_ok h hb hg i hi
  have HR := Lib.hid hR; clear hR
  obtain ⟨cb, fb⟩ := h.cellb hg hx
  have he : (x == o) = false := by simpa using ho
  clear h hg hb hx ho
  generalize ws.length = n at *
  unfold sv at *
  have hiZ : (i : Int) < (n : Int) := by omega
  go_enter Tryz.func115, Tryz.ntmps115
  go_wp2_with (go_at_call 144; refine HR.out.mono ?_; rintro e w' ⟨rfl, rfl⟩)
  go_ret2
  exact ⟨rfl, rfl⟩
set_option maxHeartbeats 1000000 in
theorem faults_any {B : Nat} {w : World} {p : Nat} {S : Mem} {F : Nat → Prop} (h : Ax B w p S F) :
    Calls Tryz.prog 18 #[.pointer (some ⟨p, 0, none⟩)] w (Same (.int .i64 (S.faults : Int)) w) := by
  obtain ⟨m, g, h, rfl⟩ := h
  have HM := Lib.hid h.made
  have c3 := h.c3
  clear h
  go_enter Tryz.func18, Tryz.ntmps18
  go_wp2_with (go_at_call 68; refine HM.out.mono ?_; rintro e w' ⟨rfl, rfl⟩)
  go_ret
  exact ⟨rfl, rfl⟩
/-- How many cells a block has. -/
def szOf (S : Mem) (b : Nat) : Nat := match Mm.get S.L b with | none => 0 | some ws => ws.length
theorem ky_inj {a b : Nat} (h : ky a = ky b) : a = b := by
  unfold ky at h
  injection h with _ h2
  omega
/-- A block is taken away: the map's run, and the arena behind it. -/
theorem Ar.freed {B : Nat} {w : World} {p m : Nat} {g : Nat → Nat} {S : Mem} (h : Ar B w p m g S) {b : Nat} (hb : b < 18446744073709551616) {ws : List Int} (hg : Mm.get S.L b = some ws) (ty : TypeId) :
    ∃ w', (Builtin.delete_ #[110, 22] ty #[.map (some m), .int .u64 (b : Int)]).run Tryz.prog (w.setCell ⟨p, 1, none⟩ (.int .i64 ((Mm.used S.L : Int) - (ws.length : Int)))) = .ok (.tuple #[]) w' ∧
      Ar B w' p m g (S.free b) ∧ Tn (Fp p m g S) (Fp p m g (S.free b)) w w' := by
  obtain ⟨n, D, hn, ho, hh⟩ := h.map
  have hu := Mm.used_del h.good.up hg
  have ho1 := map_keep (w' := w.setCell ⟨p, 1, none⟩ (.int .i64 ((Mm.used S.L : Int) - (ws.length : Int)))) ho (Below.heap_setCell _ _ _ _ (fun e => h.pm e.symm))
  obtain ⟨w', hrun, ho', ht⟩ := ho1.drop law Tryz.underlying110 (key_u64 hb) ty
  have hg' := ht.grown
  have hz : w.heap.size ≤ w'.heap.size := by have := hg'.size; simpa [World.setCell] using this
  have hblk : ∀ k, k < w.heap.size → k ≠ p → k ≠ m → w'.heap[k]? = w.heap[k]? := fun k hk h1 h2 => (hg'.block k (by simpa [World.setCell] using hk) (fun e => h2 (by cases e; rfl))).trans (Below.heap_setCell _ _ _ _ h1)
  refine ⟨w', hrun, ⟨h.pB, h.mB, ?_, ⟨n, _, hn, ho', fun k => ?_, fun k us hk => ?_⟩, fun c hc => ?_, fun c hc d hd => h.inj c (Mm.mem_del.1 hc).1 d (Mm.mem_del.1 hd).1, h.good.free hg⟩, ⟨hg'.os, hg'.tape, hg'.output, hz, fun k hk hF => hblk k hk (fun e => hF (.inl e)) (fun e => hF (.inr (.inl e))), fun k hk => .inl ?_⟩⟩
  · rw [hg'.block p (by simpa [World.setCell] using h.lt) (fun e => h.pm (by cases e; rfl)), heap_setc h.own]
    show _ = some (Obj.cells #[_, Value.int .i64 (Mm.used (Mm.del S.L b) : Int), _, _, _] _ _)
    rw [show (Mm.used S.L : Int) - (ws.length : Int) = (Mm.used (Mm.del S.L b) : Int) by omega]
    rfl
  · show _ = (Mm.get (Mm.del S.L b) k).isSome
    rw [Mm.get_del]
    by_cases e : k = b
    · subst e; rw [if_pos rfl, Maps.has_del_same]; rfl
    · rw [if_neg e, Maps.has_del_other (fun e2 => e (ky_inj e2)), hh.has]
  · have hk' : Mm.get (Mm.del S.L b) k = some us := hk
    rw [Mm.get_del] at hk'
    by_cases e : k = b
    · rw [if_pos e] at hk'; cases hk'
    · rw [if_neg e] at hk'
      rw [Maps.atKey_del_other (fun e2 => e (ky_inj e2))]
      exact hh.at_ k us hk'
  · have hc' := (Mm.mem_del.1 hc).1
    exact ⟨(h.row c hc').1, (h.row c hc').2.keep (hblk _ (h.ltb c hc') (h.pg c hc') (h.mg c hc'))⟩
  · rcases hk with hk | hk | ⟨c, hc, hk⟩
    · exact .inl hk
    · exact .inr (.inl hk)
    · exact .inr (.inr ⟨c, (Mm.mem_del.1 hc).1, hk⟩)
set_option maxRecDepth 100000 in
set_option maxHeartbeats 1000000 in
theorem free_ok {B : Nat} {w : World} {p : Nat} {S : Mem} {F : Nat → Prop} (h : Ax B w p S F) {b : Nat} (hb : b < 18446744073709551616) {ws : List Int} (hg : Mm.get S.L b = some ws) :
    Calls Tryz.prog 117 #[.pointer (some ⟨p, 0, none⟩), .int .u64 (b : Int)] w (Turns (.int .i64 0) B p (S.free b) F w) := by
  obtain ⟨m, g, h, rfl⟩ := h
  have HM := Lib.hid h.made
  have c4 := h.c4
  have c1 := h.c1
  have f1 := h.fz 1
  obtain ⟨cp, hl, -⟩ := h.look hb hg
  have hu := Mm.used_len hg
  have hfit := h.good.fits
  have hr2 := h.good.r2
  obtain ⟨w2, hrun, ha, ht⟩ := h.freed hb hg 0
  have c4' : (w.setCell ⟨p, 1, none⟩ (.int .i64 ((Mm.used S.L : Int) - (ws.length : Int)))).cell? ⟨p, 4, none⟩ = some (.map (some m)) := by
    simp [World.cell?, heap_setc h.own]
  have HA := Lib.hid ha; clear ha
  have HT := Lib.hid ht; clear ht
  clear h hg hb
  have hu2 : Mm.used S.L ≤ 65536 := by omega
  generalize Mm.used S.L = us at *
  generalize ws.length = n at *
  unfold sv at *
  clear hfit hr2
  go_enter Tryz.func117, Tryz.ntmps117
  go_wp2_with (go_at_call 68; refine HM.out.mono ?_; rintro e w' ⟨rfl, rfl⟩)
  go_ret
  exact ⟨rfl, _, ⟨_, _, HA.out, rfl⟩, HT.out⟩
set_option maxHeartbeats 1000000 in
theorem free_bad {B : Nat} {w : World} {p : Nat} {S : Mem} {F : Nat → Prop} (h : Ax B w p S F) {b : Nat} (hb : b < 18446744073709551616) (hg : Mm.get S.L b = none) (hf : S.faults ≤ 1000000000000) :
    Calls Tryz.prog 117 #[.pointer (some ⟨p, 0, none⟩), .int .u64 (b : Int)] w (Turns (.int .i64 13) B p S.fault F w) := by
  obtain ⟨m, g, h, rfl⟩ := h
  have HM := Lib.hid h.made
  have c4 := h.c4
  have HG := Lib.hid fun c => fault_any p S.faults hf c w h.c3 (h.fz 3)
  have HF := Lib.hid h.faulted
  have hl := (h.lookn hb hg).1
  clear h hg hb
  go_enter Tryz.func117, Tryz.ntmps117
  go_wp2_with (first | (go_at_call 68; refine HM.out.mono ?_; rintro e w' ⟨rfl, rfl⟩) | (go_at_call 145; refine (HG.out _).mono ?_; rintro e w' ⟨rfl, rfl⟩) | fail)
  go_ret
  exact ⟨rfl, _, ⟨_, _, HF.out.1, rfl⟩, HF.out.2⟩
end Go.Proofs.YtknefjigdlbacaaGreatDoor
