/-
  The walk of Copy: an arena of its own that is the same. By an AI agent.
-/
import Derived.Test.YtbokndgellfoaaaArenaNil
import Derived.Test.YtbokndgellfoaaaShelf
import Derived.Maps.RangeWalk
import Derived.BigRegion
set_option linter.unusedSimpArgs false
namespace Go.Proofs.Ytbokndgellfoaaa
open Go.RowKit Go.Maps
open Mm (Mem Blk)
theorem size_u64 (w : World) : (sizeOf 27).run Try.prog w = .ok 1 w := by
  obtain ⟨i0, hi, hz0, hz1, hz2⟩ := info_parts info_u64
  simp [sizeOf, typeInfo, hi, hz1]
theorem clone_row (k c : Nat) (ws : List Int) (h1 : 1 ≤ ws.length) (h2 : ws.length ≤ 65536) (w : World) (h : Wd w k ws) :
    Calls Try.prog 30 #[sv k ws.length c] w fun e w' => ∃ k' c', e = .returned (sv k' ws.length c') ∧ w.heap.size ≤ k' ∧ Wd w' k' ws ∧ Below w.heap.size w w' := by
  obtain ⟨i0, hi, hz0, hz1, hz2⟩ := info_parts info_u64
  obtain ⟨tl, hk⟩ := h
  refine (Try.slices_Clone i0 (.int .u64 0) 1 8 hi hz0 hz1 hz2 rfl (by decide) size_u64 k 0 ws.length c (wd ws).toList w (by simp [wd]) (by unfold maxLen; omega) (by omega) ?_ ?_).mono ?_
  · intro j u hj
    have hl := (List.getElem?_eq_some_iff.1 hj).1
    have e : (wd ws ++ tl)[j]? = some u := by
      rw [Array.getElem?_append_left (by simpa using hl)]
      simpa using hj
    simp [World.cell?, hk, e]
  · intro u hu
    simp [wd] at hu
    obtain ⟨x, _, rfl⟩ := hu
    rfl
  · rintro e w' ⟨v', rfl, hown, hne, hb⟩
    rcases hown.2 with ⟨_, h0⟩ | ⟨g, cap, cur, rfl, hg, hcur, _, _, _, ht⟩
    · omega
    · refine ⟨g, cap, rfl, hg, ⟨(cur.toList.drop ws.length).toArray, ?_⟩, hb⟩
      rw [hcur]
      congr 2
      rw [Nat.mul_one] at ht
      apply Array.toList_inj.1
      rw [Array.toList_append, ← ht]
      simp
/-- The copy, half made: what is left to come, and what has come. -/
structure Half (w0 wr : World) (D0 : DataW Value) (S : Mem) (left : Lit → Bool) (cnt : Nat) : Prop where
  below : Below w0.heap.size w0 wr
  big : w0.heap.size + 3 ≤ wr.heap.size
  own : wr.heap[w0.heap.size + 1]? = some (.cells #[.int .i64 (S.room : Int), .int .i64 (Mm.used S.L : Int), .int .u64 (S.last : Int), .int .i64 (S.faults : Int), .map (some w0.heap.size)] 38 (0, 0))
  map : ∃ (g' : Nat → Nat) (n' : Nat) (D' : DataW Value), n' + cnt ≤ Maps.size D0 ∧ wr.ownsMap Try.prog 27 hv w0.heap.size n' D' ∧
    (∀ k : Nat, Maps.has D' (ky k) = (Maps.has D0 (ky k) && !left (ky k))) ∧
    (∀ (k : Nat) (ws : List Int), Mm.get S.L k = some ws → left (ky k) = false → (∃ c, D'.atKey (ky k) (.held (.slice none 0 0)) = .held (sv (g' k) ws.length c)) ∧ w0.heap.size + 3 ≤ g' k ∧ Wd wr (g' k) ws) ∧
    (∀ j k : Nat, (Mm.get S.L j).isSome = true → (Mm.get S.L k).isSome = true → left (ky j) = false → left (ky k) = false → g' j = g' k → j = k)
theorem Half.keep {w0 wr w2 : World} {D0 : DataW Value} {S : Mem} {left : Lit → Bool} {cnt : Nat} (h : Half w0 wr D0 S left cnt) (hg : wr.grownBy w2 (some (w0.heap.size + 2))) : Half w0 w2 D0 S left cnt := by
  have hb : Below w0.heap.size wr w2 := ⟨hg.os, hg.tape, hg.output, hg.size, fun k hk => hg.block k (by have := h.big; omega) (fun e => by have := Option.some.inj e; omega)⟩
  have hbig := h.big
  refine ⟨h.below.trans hb, Nat.le_trans h.big hg.size, (hg.block _ (by omega) (fun e => by have := Option.some.inj e; omega)).trans h.own, ?_⟩
  obtain ⟨g', n', D', hn, ho, hh, ha, hi⟩ := h.map
  refine ⟨g', n', D', hn, ho.kept hg (fun e => by have := Option.some.inj e; omega), hh, fun k ws hk hl => ?_, hi⟩
  obtain ⟨e1, e2, e3⟩ := ha k ws hk hl
  exact ⟨e1, e2, e3.keep (hg.block _ e3.lt (fun e => by have := Option.some.inj e; omega))⟩
theorem Half.step {w0 w2 w3 : World} {D0 : DataW Value} {S : Mem} {left : Lit → Bool} {cnt cnt' : Nat} (h : Half w0 w2 D0 S left cnt) (hlt : cnt' < cnt) {x : Nat} (hx : x < 18446744073709551616) {ws : List Int} (hg : Mm.get S.L x = some ws) (hlx : left (ky x) = true) (hx0 : Maps.has D0 (ky x) = true)
    (hsz : Maps.size D0 ≤ 1000000000000) (hb : Below w2.heap.size w2 w3) {k' c' : Nat} (hk : w2.heap.size ≤ k') (hw : Wd w3 k' ws) :
    ∃ w4, (Instr.mapUpdate 36 (.map (some w0.heap.size)) (.int .u64 (x : Int)) (sv k' ws.length c')).run Try.prog w3 = .ok () w4 ∧ Half w0 w4 D0 S (fun z => left z && !z.sameKey (ky x)) cnt' ∧ w2.grownBy w4 (some w0.heap.size) := by
  obtain ⟨g', n', D', hn, ho, hh, ha, hi⟩ := h.map
  have hbig := h.big
  have ho3 : w3.ownsMap Try.prog 27 hv w0.heap.size n' D' := map_keep ho (hb.block _ (by omega))
  obtain ⟨w4, hrun, ho4, ht⟩ := ho3.store law Try.underlying36 (by unfold maxLen; omega) (key_u64 hx) (val := sv k' ws.length c') (d := .held (sv k' ws.length c')) (ps := []) rfl
  have hg4 := ht.grown
  have hz : w2.heap.size ≤ w4.heap.size := Nat.le_trans hb.size hg4.size
  have hblk : ∀ k, k < w2.heap.size → k ≠ w0.heap.size → w4.heap[k]? = w2.heap[k]? := fun k hk' hne => (hg4.block k (by have := hb.size; omega) (fun e => hne (by cases e; rfl))).trans (hb.block k hk')
  have hgrow : w2.grownBy w4 (some w0.heap.size) := ⟨hg4.os.trans hb.os, hg4.tape.trans hb.tape, hg4.output.trans hb.output, hz, fun i hi' hne => hblk i hi' (fun e => hne (by rw [e]))⟩
  refine ⟨w4, hrun, ⟨h.below.trans ⟨hgrow.os, hgrow.tape, hgrow.output, hz, fun k hk' => hblk k (by omega) (by omega)⟩, by omega, (hblk _ (by omega) (by omega)).trans h.own, ?_⟩, hgrow⟩
  refine ⟨fun k => if k = x then k' else g' k, n' + 1, _, by omega, ho4, fun k => ?_, fun k us hk' hl => ?_, fun j k hj hk' hlj hlk e => ?_⟩
  · by_cases e : k = x
    · subst e
      rw [Maps.has_put_same ho3.isMap]
      · simp [ky_same, hx0]
      · trivial
    · rw [Maps.has_put_other (fun e2 => e (ky_inj e2)), hh]
      simp [ky_same, e]
  · by_cases e : k = x
    · subst e
      obtain rfl : us = ws := by rw [hg] at hk'; exact (Option.some.inj hk').symm
      simp only [if_true]
      refine ⟨⟨c', ?_⟩, by omega, hw.keep (hg4.block _ hw.lt (fun e => by cases e; omega))⟩
      rw [Maps.atKey_put_same ho3.isMap]
      trivial
    · simp only [if_neg e]
      have hl' : left (ky k) = false := by simpa [ky_same, e] using hl
      obtain ⟨⟨c, e1⟩, e2, e3⟩ := ha k us hk' hl'
      refine ⟨⟨c, ?_⟩, e2, e3.keep (hblk _ e3.lt (by omega))⟩
      rw [Maps.atKey_put_other (fun e2 => e (ky_inj e2))]
      exact e1
  · by_cases ej : j = x <;> by_cases ek : k = x
    · rw [ej, ek]
    · exfalso
      simp only [ej, if_true, if_neg ek] at e
      obtain ⟨us, hus⟩ := Option.isSome_iff_exists.1 hk'
      have := (ha k us hus (by simpa [ky_same, ek] using hlk)).2.2.lt
      omega
    · exfalso
      simp only [ek, if_true, if_neg ej] at e
      obtain ⟨us, hus⟩ := Option.isSome_iff_exists.1 hj
      have := (ha j us hus (by simpa [ky_same, ej] using hlj)).2.2.lt
      omega
    · simp only [if_neg ej, if_neg ek] at e
      exact hi j k hj hk' (by simpa [ky_same, ej] using hlj) (by simpa [ky_same, ek] using hlk) e
theorem Half.done {w0 wr : World} {B p m : Nat} {g : Nat → Nat} {D0 : DataW Value} {S : Mem} {left : Lit → Bool} {cnt : Nat} (h : Half w0 wr D0 S left cnt) (ha : Ar B w0 p m g S) (hl : ∀ kl, left kl = false) (hh0 : Holds8 D0 g S.L) (hsz : Maps.size D0 ≤ S.last) :
    ∃ F, Ax w0.heap.size wr (w0.heap.size + 1) S F := by
  obtain ⟨g', n', D', hn, ho, hh, hat, hi⟩ := h.map
  refine ⟨_, w0.heap.size, g', ⟨by omega, Nat.le_refl _, h.own, ⟨n', D', by omega, ho, fun k => ?_, fun k ws hk => (hat k ws hk (hl _)).1⟩, fun b hb => ?_, fun b hb c hc e => ?_, ha.good⟩, rfl⟩
  · rw [hh, hl, hh0.has]; simp
  · have := hat b.1 b.2 (Mm.get_of_mem ha.good.up b hb) (hl _)
    exact ⟨by omega, this.2.2⟩
  · exact hi b.1 c.1 (by rw [Mm.get_of_mem ha.good.up b hb]; rfl) (by rw [Mm.get_of_mem ha.good.up c hc]; rfl) (hl _) (hl _) e
/-- What Copy answers. -/
def Copies (S : Mem) (w : World) (e : Ending) (w' : World) : Prop := e = .returned (.pointer (some ⟨w.heap.size + 1, 0, none⟩)) ∧ ∃ F, Ax w.heap.size w' (w.heap.size + 1) S F ∧ Below w.heap.size w w'
set_option maxRecDepth 100000 in
set_option maxHeartbeats 2000000 in
theorem copy_any {B : Nat} {w : World} {p : Nat} {S : Mem} {F : Nat → Prop} (h : Ax B w p S F) (hl : S.last ≤ 1000000000000) :
    Calls Try.prog 15 #[.pointer (some ⟨p, 0, none⟩)] w (Copies S w) := by
  obtain ⟨m, g, h, rfl⟩ := h
  have HM := Lib.hid h.made
  have hmm := @run_makeMap Try.prog
  have c0 := h.c0
  have c1 := h.c1
  have c2 := h.c2
  have c3 := h.c3
  have c4 := h.c4
  have hpl := h.lt
  obtain ⟨nn, D0, hnn, ho, hh⟩ := h.map
  have hsz := ho.size_le
  have HO := Lib.hid ho; clear ho
  have HH := Lib.hid hh; clear hh
  have HA := Lib.hid h; clear h
  obtain ⟨us, eus⟩ : ∃ us, us = Mm.used S.L := ⟨_, rfl⟩
  obtain ⟨rm, erm⟩ : ∃ rm, rm = S.room := ⟨_, rfl⟩
  obtain ⟨la, ela⟩ : ∃ la, la = S.last := ⟨_, rfl⟩
  obtain ⟨fa, efa⟩ : ∃ fa, fa = S.faults := ⟨_, rfl⟩
  rw [← eus] at c1
  rw [← erm] at c0
  rw [← ela] at c2
  rw [← efa] at c3
  go_enter Try.func15, Try.ntmps15
  go_wp2_with fail
  with_reducible refine HM.out.mono ?_
  rintro e w' ⟨rfl, rfl⟩
  go_wp2_with fail
  go_region
  obtain ⟨W, hW⟩ : ∃ W, ((w.alloc (.map #[] 0)).alloc (.cells #[.int .i64 (S.room : Int), .int .i64 (Mm.used S.L : Int), .int .u64 (S.last : Int), .int .i64 (S.faults : Int), .map (some w.heap.size)] 38)).drew = W := ⟨_, rfl⟩
  rw [hW]
  have hW0 : W.heap.size = w.heap.size + 2 := by rw [← hW]; simp [World.drew]
  have hWb : Below w.heap.size w W := by rw [← hW]; exact (((Below.refl _ w).alloc (Nat.le_refl _) _).alloc (by simp) _).drew
  have k4 : W.cell? ⟨p, 4, none⟩ = some (.map (some m)) := (hWb.cell (p := ⟨p, 4, none⟩) hpl).trans c4
  have HOW := Lib.hid (map_keep HO.out (hWb.block m HO.out.lt))
  have HS : Hid (∀ w1 : World, W.grownBy w1 none → w1.heap.size = W.heap.size + 1 → Half w w1 D0 S (Maps.has D0) (Maps.size D0)) := Lib.hid (by
    intro w1 hg hs
    have hb1 : Below w.heap.size W w1 := ⟨hg.os, hg.tape, hg.output, hg.size, fun k hk => hg.block k (by omega) (fun e => by cases e)⟩
    have e1 : W.heap[w.heap.size + 1]? = some (.cells #[.int .i64 (S.room : Int), .int .i64 (Mm.used S.L : Int), .int .u64 (S.last : Int), .int .i64 (S.faults : Int), .map (some w.heap.size)] 38 (0, 0)) := by
      rw [← hW]
      have := heap_alloc_new (w.alloc (.map #[] 0)) (.cells #[.int .i64 (S.room : Int), .int .i64 (Mm.used S.L : Int), .int .u64 (S.last : Int), .int .i64 (S.faults : Int), .map (some w.heap.size)] 38)
      simpa [World.drew] using this
    have e2 : W.ownsMap Try.prog 27 hv w.heap.size 0 (.map []) := by
      rw [← hW]
      exact ((World.ownsMap_made w Try.prog 27 hv).alloc _).drew
    refine ⟨hWb.trans hb1, by omega, (hg.block _ (by omega) (fun e => by cases e)).trans e1, fun _ => 0, 0, _, by omega, e2.kept hg (by simp), fun k => ?_, fun k ws hk hl => ?_, fun j k hj hk hlj hlk e => ?_⟩
    · cases Maps.has D0 (ky k) <;> rfl
    · rw [HH.out.has, hk] at hl; cases hl
    · rw [HH.out.has, hj] at hlj; cases hlj)
  clear hW
  go_wp2_with (first
    | (at_range; refine wpList_range_own _ rfl _ 36 rfl 27 33 law Try.underlying36 _ m nn D0 rfl HOW.out ?_; intro w0 hrg0 hg0 hs0)
    | fail)
  go_frame
  rw [hW0] at hrg0 ⊢
  have H0 := Lib.hid (HS.out w0 hg0 hs0); clear hg0 hs0 HS k4
  have hml := HO.out.lt
  clear hWb
  go_loopw [4, 5] (fun _ _ wr => ∃ (left : Lit → Bool) (cnt : Nat), wr.ranges Try.prog 27 hv m (w.heap.size + 2) nn D0 left cnt ∧ Half w wr D0 S left cnt) (fun _ _ wr => wr.rangeLeft m (w.heap.size + 2))
  case atStart => exact ⟨_, _, hrg0, H0.out⟩
  case round =>
    obtain ⟨left, cnt, hrg, hH⟩ := hrel
    go_wp2_with (first
      | (at_next; refine wpList_next_ranges _ rfl _ rfl 27 law hv (fun x : Nat => Value.int .u64 (x : Int)) id (fun key kl hk => by obtain ⟨x, hx, _⟩ := key_inv hk; exact ⟨x, hx⟩) (fun v _ _ => ⟨v, rfl⟩) m (w.heap.size + 2) nn _ _ _ rfl hrg ?_ ?_)
      | fail)
    · intro hc0 hl0
      have HF := Lib.hid (hH.done HA.out hl0 HH.out (by omega))
      have HB := Lib.hid hH.below
      clear hH hrg
      go_wp2
      go_ret
      obtain ⟨F, hF⟩ := HF.out
      exact ⟨rfl, F, hF, HB.out⟩
    · intro x c kl yd yp w2 cnt2 hkey hlk hv2 hat hrg2 hlt hg2 hs2 hen
      obtain ⟨x', ex, rfl⟩ := key_inv hkey
      obtain rfl : x = x' := by
        have ex' : Value.int .u64 (x : Int) = Value.int .u64 (x' : Int) := ex
        injection ex' with _ e2
        omega
      have hx0 := Maps.has_true_of_atKey hat
      obtain ⟨ws, hws⟩ : ∃ ws, Mm.get S.L x = some ws := Option.isSome_iff_exists.1 (by rw [← HH.out.has]; exact hx0)
      obtain ⟨cap, hcap⟩ := HH.out.at_ x ws hws
      have hc : c = sv (g x) ws.length cap := by
        have e1 := hat (.held (.slice none 0 0))
        rw [hcap] at e1
        have e2 : (yd, yp) = ((.held c, []) : DataW Value × List MemPlace) := by
          have : hv (id c) = some (yd, yp) := hv2
          simp only [hv, id, Option.some.injEq] at this
          exact this.symm
        have e3 : yd = .held c := (Prod.mk.inj e2).1
        rw [e3] at e1
        injection e1 with e1
        exact e1.symm
      subst hc
      have hm := Mm.get_some_mem hws
      have hxl : x < 18446744073709551616 := by have := (HA.out.good.up.mem _ hm).2; simp only at this; omega
      have hH2 := hH.keep hg2
      have hwd : Wd w2.drew (g x) ws := (HA.out.row _ hm).2.keep (hH2.below.block _ (HA.out.ltb _ hm))
      have hw1 : 1 ≤ ws.length := HA.out.good.full _ hm
      have hw2 : ws.length ≤ 65536 := by have := Mm.used_len hws; have := HA.out.good.fits; have := HA.out.good.r2; omega
      have KC := Lib.hid (clone_row (g x) cap ws hw1 hw2 w2.drew hwd)
      have HST : Hid (∀ (w3 : World) (k' c' : Nat), w2.drew.heap.size ≤ k' → Wd w3 k' ws → Below w2.drew.heap.size w2.drew w3 → w3.cell? ⟨w.heap.size + 1, 4, none⟩ = some (.map (some w.heap.size)) ∧
          ∃ w4, (Instr.mapUpdate 36 (.map (some w.heap.size)) (.int .u64 (x : Int)) (sv k' ws.length c')).run Try.prog w3 = .ok () w4 ∧ Half w w4 D0 S (fun z => left z && !z.sameKey (ky x)) cnt2 ∧ w2.grownBy w4 (some w.heap.size)) := Lib.hid (by
        intro w3 k' c' hk hw3 hb
        have hb' : Below w2.heap.size w2 w3 := (Below.refl w2.heap.size w2).drew.trans hb
        have hbig := hH2.big
        refine ⟨?_, hH2.step hlt hxl hws hlk hx0 (by omega) hb' hk hw3⟩
        simp [World.cell?, hb'.block (w.heap.size + 1) (by omega), hH2.own])
      have k4 : w2.drew.cell? ⟨w.heap.size + 1, 4, none⟩ = some (.map (some w.heap.size)) := by
        have e4 : w2.cell? ⟨w.heap.size + 1, 4, none⟩ = some (.map (some w.heap.size)) := by simp [World.cell?, hH2.own]
        exact e4
      have HR2 := Lib.hid hrg2; clear hrg2
      have HL : Hid (wr.rangeLeft m (w.heap.size + 2) = cnt) := Lib.hid hrg.left_eq
      clear hrg hH hH2 hat hv2 hkey hcap hwd hg2 hs2 hm hws hx0 hlk hxl hw1 hw2
      have hen' : (Instr.entry (.pointer (some ⟨w.heap.size + 2, 0, none⟩))).run Try.prog w2 = .ok (.tuple #[.int .u64 (x : Int), sv (g x) ws.length cap]) w2 := hen
      clear hen
      generalize hn0 : ws.length = n0 at KC HST hen' ⊢
      have HWS := Lib.hid hn0; clear hn0
      go_wp2
      go_region_with (go_at_call 30; with_reducible refine KC.out.mono ?_; rintro e w3 ⟨k', c', rfl, hk', hw3, hb3⟩; obtain ⟨k4', w4, hrun, hH4, hg4⟩ := HST.out w3 k' c' hk' hw3 hb3; have HH4 := Lib.hid hH4; have HG4 := Lib.hid hg4; clear hH4 hg4 hk' hw3 hb3)
      all_goals go_wp2
      all_goals have hr4 := HR2.out.kept HG4.out (by simp; omega) (by simp)
      all_goals go_roundw
      all_goals first | exact ⟨_, _, hr4, HH4.out⟩ | (rw [hr4.left_eq, HL.out]; exact hlt)
end Go.Proofs.Ytbokndgellfoaaa
