/-
  Several texts in one: What an act does, counted; the arena of ActOne; The walk of words. By an AI agent.
-/
import Derived.Test.YthgabbkpjffdnaaDoorActCommon
import Derived.Test.YthgabbkpjffdnaaDoorSortEnd
set_option linter.unusedSimpArgs false
set_option linter.unusedVariables false
namespace Go.Proofs.YthgabbkpjffdnaaDoor
open Mm (Mem Blk)
open Ac (A)
/-- The arena of ActOne, behind i blocks. -/
structure Small (i : Nat) (S : Mem) : Prop where
  room : S.room = 3000
  last : S.last = i
  faults : S.faults = 0
  used : Mm.used S.L ≤ 20 * i
  each : ∀ b ∈ S.L, b.2.length ≤ 20
theorem Small.start : Small 0 ⟨3000, 0, 0, []⟩ := ⟨rfl, rfl, rfl, by simp [Mm.used], by simp⟩
theorem Small.next {i : Nat} {S : Mem} (h : Small i S) {n : Nat} (hn : n ≤ 20) : Small (i + 1) (S.alloc n) := by
  refine ⟨h.room, by show S.last + 1 = _; rw [h.last], h.faults, ?_, ?_⟩
  · show Mm.used (S.L ++ [_]) ≤ _
    rw [Mm.used_append]
    have := h.used
    simp [Mm.used]; omega
  · intro b hb
    rcases List.mem_append.1 hb with hb | hb
    · exact h.each b hb
    · simp at hb; subst hb; simpa using hn
/-- Nothing, if the act may not be, or does nothing. -/
theorem did_none {x : A} {S S' : Mem} (h : Did x S S') (hx : Ac.right x = false ∨ x.k = 0) : S' = S := by
  cases h with
  | no => rfl
  | fault hr h0 h5 => rcases hx with e | e; · rw [e] at hr; cases hr
                      · exact absurd e h0
  | put ws n y hr hk hg hn => rcases hx with e | e; · rw [e] at hr; cases hr
                              · rw [e] at hk; cases hk
  | alloc n hr hk => rcases hx with e | e; · rw [e] at hr; cases hr
                     · rw [e] at hk; cases hk
  | free ws hr hk hg => rcases hx with e | e; · rw [e] at hr; cases hr
                        · rw [e] at hk; cases hk
/-- One block more, or one less, or as many. -/
theorem did_block {x : A} {S S' : Mem} (h : Did x S S') (hG : Mm.Good S) (hk : x.k = 5 ∨ x.k = 6) : S'.L.length = S.L.length ∨ (S'.L.length = S.L.length + 1 ∧ x.k = 5) ∨ (S'.L.length + 1 = S.L.length ∧ x.k = 6) := by
  cases h with
  | no => exact .inl rfl
  | fault hr h0 h5 => exact .inl rfl
  | put ws n y hr hk' hg hn => rcases hk with e | e <;> rw [e] at hk' <;> cases hk'
  | alloc n hr hk' => exact .inr (.inl ⟨by show (S.L ++ [_]).length = _; simp, hk'⟩)
  | free ws hr hk' hg => exact .inr (.inr ⟨del_one hG.up hg, hk'⟩)
/-- One word at most, and only if it writes. -/
theorem did_cell {x : A} {S S' : Mem} (h : Did x S S') (hG : Mm.Good S) (hk : x.k ≠ 5) (hk6 : x.k ≠ 6) : S'.L.length = S.L.length ∧ (flat S'.L).length = (flat S.L).length ∧ S'.faults ≤ S.faults + 1 ∧ (∀ m, (∀ b ∈ S.L, b.2.length ≤ m) → ∀ b ∈ S'.L, b.2.length ≤ m) ∧ S'.last = S.last ∧
    (∀ k, cnt (flat S'.L) (flat S.L) k ≤ 1) ∧ ((∀ k, cnt (flat S'.L) (flat S.L) k = 0) ∨ (Ac.writes x = true ∧ S'.faults = S.faults)) := by
  cases h with
  | no => exact ⟨rfl, rfl, Nat.le_succ _, fun m h => h, rfl, fun k => by rw [cnt_self]; omega, .inl fun k => cnt_self _ k⟩
  | fault hr h0 h5 => exact ⟨rfl, rfl, Nat.le_refl _, fun m h => h, rfl, fun k => by show cnt (flat S.L) (flat S.L) k ≤ 1; rw [cnt_self]; omega, .inl fun k => cnt_self _ k⟩
  | put ws n y hr hk' hg hn =>
    obtain ⟨j, hj⟩ := flat_put (n := x.b) (i := n) (v := y) hG.up
    refine ⟨put_nos _ _ _ _, ?_, Nat.le_succ _, fun m h => put_lens h, rfl, fun k => ?_, .inr ⟨by simp [Ac.writes, hk', hr], rfl⟩⟩
    · show (flat (Mm.put S.L x.b n y)).length = _
      rw [hj]; simp
    · show cnt (flat (Mm.put S.L x.b n y)) (flat S.L) k ≤ 1
      rw [hj]; exact cnt_one _ _ _ _
  | alloc n hr hk' => exact absurd hk' hk
  | free ws hr hk' hg => exact absurd hk' hk6
end Go.Proofs.YthgabbkpjffdnaaDoor
set_option linter.unusedSimpArgs false
set_option linter.unusedVariables false
namespace Go.Proofs.YthgabbkpjffdnaaDoor
open Go.RowKit Go.Maps
open Mm (Mem Blk)
theorem get_up : ∀ {l : List Blk} {lo hi : Nat}, Mm.Up lo hi l → ∀ {j : Nat} {b : Blk}, l[j]? = some b → Mm.get l b.1 = some b.2
  | c :: r, lo, hi, h, 0, b, e => by
    simp at e; subst e; simp [Mm.get]
  | c :: r, lo, hi, h, j + 1, b, e => by
    simp at e
    have := (h.2.2.mem b (List.mem_of_getElem? e)).1
    unfold Mm.get
    rw [if_neg (by omega)]
    exact get_up h.2.2 e
theorem flat_take {l : List Blk} {i : Nat} {b : Blk} (h : l[i]? = some b) : flat (l.take (i + 1)) = flat (l.take i) ++ b.2 := by
  rw [List.take_add_one, h, flat_append]; simp [flat]
theorem flat_take_le (l : List Blk) (i : Nat) : (flat (l.take i)).length ≤ Mm.used l := by
  rw [← flat_len l]
  conv => rhs; rw [← List.take_append_drop i l, flat_append]
  simp
set_option maxRecDepth 100000 in
set_option maxHeartbeats 4000000 in
/-- ████ words. ████ -/
theorem words_any {B : Nat} {w : World} {p : Nat} {S : Mem} {F : Nat → Prop} (h : Ax B w p S F) (hl : S.last ≤ 1000000000000) (h2 : ∀ b ∈ S.L, b.2.length ≤ 2000) :
    Calls Tryd.prog 25 #[.pointer (some ⟨p, 0, none⟩)] w (Flat (flat S.L) w) := by
  have hG := h.good
  have hlen : S.L.length ≤ 65536 := by have := nos_len hG; simpa [nos] using this
  have hused : Mm.used S.L ≤ 65536 := by have := hG.fits; have := hG.r2; omega
  have HU := Lib.hid fun i => flat_take_le S.L i
  have hnum : ∀ {j : Nat} {b : Blk}, S.L[j]? = some b → b.1 < 18446744073709551616 := fun e => by have := (hG.up.mem _ (List.mem_of_getElem? e)).2; omega
  have HA : Hid (∀ w', Below w.heap.size w w' → Ax B w' p S F) := Lib.hid fun w' hb => h.below hb (Nat.le_refl _)
  have HZ : Hid (∀ (j : Nat) (b : Blk), S.L[j]? = some b → ∀ w', Below w.heap.size w w' → Calls Tryd.prog 51 #[.pointer (some ⟨p, 0, none⟩), .int .u64 (b.1 : Int)] w' (Same (.int .i64 (b.2.length : Int)) w')) := Lib.hid fun j b e w' hb => by
    have := size_any (HA.out w' hb) (hnum e)
    unfold szOf at this
    rw [get_up hG.up e] at this
    exact this
  have HL : Hid (∀ (j : Nat) (b : Blk), S.L[j]? = some b → ∀ (i : Nat) (y : Int), b.2[i]? = some y → ∀ w', Below w.heap.size w w' → Calls Tryd.prog 26 #[.pointer (some ⟨p, 0, none⟩), .int .u64 (b.1 : Int), .int .i64 (i : Int)] w' (Same (.tuple #[.int .u64 y, .int .i64 0]) w')) := Lib.hid fun j b e i y ey w' hb =>
    load_ok (HA.out w' hb) (hnum e) (get_up hG.up e) i ey
  have H2 := Lib.hid h2; clear h2
  clear hnum hG
  have hb0 := (Below.refl w.heap.size w).alloc (Nat.le_refl _) (.cells #[] 23)
  have KB := Lib.hid (blocks_any (HA.out _ hb0) hl)
  obtain ⟨N, hN⟩ : ∃ N, N = S.L.length := ⟨_, rfl⟩
  rw [← hN] at hlen
  have HN := Lib.hid hN; clear hN
  obtain ⟨i0, hi, hz0, hz1, hz2⟩ := info_parts info_u64
  have Hz0 := Lib.hid hz0; clear hz0
  have Hz1 := Lib.hid hz1; clear hz1
  have Hz2 := Lib.hid hz2; clear hz2
  have Hi := Lib.hid hi; clear hi
  have HR0 := Lib.hid (World.ownsRow_lit (base := w.heap.size) (e := 23) (size := 1) w #[] 0 (by omega) (by decide) (by decide))
  have HB0 := Lib.hid hb0; clear hb0 h
  go_enter Tryd.func25, Tryd.ntmps25
  go_wp2_with fail
  with_reducible refine KB.out.mono ?_
  rintro e w1 ⟨lv, ts, rfl, rfl, hr, -, hb⟩
  have HR1 := Lib.hid ((Tn.of_below (F := fun _ => False) hb).row HR0.out (fun _ _ => id)).1
  have HB1 := Lib.hid (HB0.out.trans (hb.mono HB0.out.size))
  obtain ⟨a, c, rfl, hcells⟩ := row_form hr
  have HLK : Hid (LK a (nos S.L) (.slice (some ⟨w.heap.size, 0, none⟩) 0 0) w1) := Lib.hid (fun k hk => by
    obtain ⟨b, ea, hc⟩ := hcells k hk
    have hlt := hr.lt b (by rw [ea]; rfl)
    refine ⟨b, ea, hlt.2, ?_, hc⟩
    intro e
    have : w.heap.size = b := by simpa [Value.ownBlock] using e
    have := hlt.1
    simp at this
    omega)
  have hnl : (nos S.L).length = N := by rw [HN.out]; simp [nos]
  rw [hnl]
  have HNL := Lib.hid hnl
  clear hr hcells hb hnl KB HR0 HB0
  go_wp2_with fail
  go_loopw [3, 5] (fun u iv wr => ∃ (i : Nat), i ≤ N ∧ iv = .int .i64 i ∧ wr.ownsRow w.heap.size 23 1 u (flat (S.L.take i)).length (ws (flat (S.L.take i))) ∧ LK a (nos S.L) u wr ∧ Below w.heap.size w wr) (fun _ i _ => N - (intOf i).toNat)
  case atStart => exact ⟨0, Nat.zero_le _, rfl, HR1.out, HLK.out, HB1.out⟩
  case round =>
    obtain ⟨i, hi, rfl, hr, hlk, hb⟩ := hrel
    clear HR1 HLK HB1
    by_cases hlt : i < N
    · have hltZ : (i : Int) < (N : Int) := by omega
      obtain ⟨b, hbi⟩ : ∃ b, S.L[i]? = some b := ⟨_, List.getElem?_eq_getElem (by rw [← HN.out]; exact hlt)⟩
      have hm2 : b.2.length ≤ 2000 := H2.out b (List.mem_of_getElem? hbi)
      have HZi := Lib.hid (HZ.out i b hbi)
      have HLi := Lib.hid (HL.out i b hbi)
      have HT := Lib.hid (flat_take hbi)
      have hki : i < (nos S.L).length := by rw [HNL.out]; exact hlt
      have hts : (nos S.L)[i] = b.1 := by
        have := List.getElem?_eq_some_iff.1 hbi
        obtain ⟨_, e⟩ := this
        simp [nos, e]
      have HK : Hid (∀ u w', LK a (nos S.L) u w' → ∃ g, a = some ⟨g, 0, none⟩ ∧ w'.cell? ⟨g, i, none⟩ = some (.int .u64 (b.1 : Int))) := Lib.hid (fun u w' h => by
        obtain ⟨g, ea, -, -, hc⟩ := h i hki
        rw [hts] at hc
        exact ⟨g, ea, hc⟩)
      obtain ⟨g, rfl, -⟩ := HK.out _ _ hlk
      have hun := HU.out (i + 1)
      rw [HT.out] at hun
      simp only [List.length_append] at hun
      obtain ⟨pre, hpre⟩ : ∃ pre, pre = flat (S.L.take i) := ⟨_, rfl⟩
      rw [← hpre] at hr hun HT
      have HP := Lib.hid hpre
      obtain ⟨m, hm⟩ : ∃ m, m = b.2.length := ⟨_, rfl⟩
      rw [← hm] at hm2 hun HZi
      have HM := Lib.hid hm
      have HRow := Lib.hid hr
      have HLK := Lib.hid hlk
      have HB := Lib.hid hb
      clear hbi hki hts hpre hm hr hlk hb
      go_wp2_with fail
      go_loopw [3, 6] (fun u kv wr => ∃ (j : Nat), j ≤ m ∧ kv = .int .i64 j ∧ wr.ownsRow w.heap.size 23 1 u (pre.length + j) (ws (pre ++ b.2.take j)) ∧ LK (some ⟨g, 0, none⟩) (nos S.L) u wr ∧ Below w.heap.size w wr) (fun _ k _ => m - (intOf k).toNat)
      case atStart => exact ⟨0, Nat.zero_le _, rfl, by simpa using HRow.out, HLK.out, HB.out⟩
      case round =>
        obtain ⟨j, hj, rfl, hr, hlk, hb⟩ := hrel
        clear HRow HLK HB
        by_cases hjm : j < m
        · have hjZ : (j : Int) < (m : Int) := by omega
          have hj2 : (j : Int) < 2000 := by omega
          obtain ⟨y, hy⟩ : ∃ y, b.2[j]? = some y := ⟨_, List.getElem?_eq_getElem (by rw [← HM.out]; exact hjm)⟩
          have HLj := Lib.hid (HLi.out j y hy)
          have HTj : Hid (ws (pre ++ b.2.take (j + 1)) = ws (pre ++ b.2.take j) ++ [.int .u64 y]) := Lib.hid (by rw [List.take_add_one, hy]; simp [ws])
          obtain ⟨g', eg, gc⟩ := HK.out _ _ hlk
          obtain rfl : g = g' := by simpa using eg
          have HRow := Lib.hid hr
          have HLK := Lib.hid hlk
          have HB := Lib.hid hb
          clear hy hr hlk hb eg
          go_wp2_with fail
          with_reducible refine (HZi.out _ HB.out).mono ?_
          rintro e w' ⟨rfl, rfl⟩
          go_wp2_with fail
          with_reducible refine (HLj.out _ HB.out).mono ?_
          rintro e w' ⟨rfl, rfl⟩
          go_wp2_with (at_builtin; refine wpList_append_own_at _ rfl _ _ 38 rfl w.heap.size 23 i0 (.int .u64 0) 1 8 Tryd.underlying38 Hi.out Hz0.out Hz1.out Hz2.out rfl (by decide) _ _ _ rfl (HRow.out.alloc _) ⟨_, 0, none⟩ 1 1 [.int .u64 y] rfl rfl (cell_one_new _ _ _) (by simp [Value.oneCell']) (by unfold maxLen; omega) (by omega) (by have := HB.out.size; simp; omega) ?_; intro v' w3 hown' hgrow _ hat)
          go_roundw
          case rel => exact ⟨j + 1, by omega, by go_num, by rw [HTj.out]; exact hown', HLK.out.grow hgrow hat, HB.out.trans (((Below.refl _ _).alloc HB.out.size _).trans ⟨hgrow.os, hgrow.tape, hgrow.output, hgrow.size, fun j hj => hgrow.block j (by have := HB.out.size; simp; omega) (fun e => by have := (HRow.out.lt j e.symm).1; omega)⟩)⟩
          case measure => simp [intOf]; omega
        · obtain rfl : j = m := by omega
          obtain ⟨g', eg, gc⟩ := HK.out _ _ hlk
          obtain rfl : g = g' := by simpa using eg
          have HRow := Lib.hid hr
          have HLK := Lib.hid hlk
          have HB := Lib.hid hb
          clear hr hlk hb eg
          go_wp2_with fail
          with_reducible refine (HZi.out _ HB.out).mono ?_
          rintro e w' ⟨rfl, rfl⟩
          go_wp2_with fail
          go_roundw
          case rel =>
            refine ⟨i + 1, by omega, by go_num, ?_, HLK.out, HB.out⟩
            have h := HRow.out
            rw [HM.out, List.take_length] at h
            rw [HT.out, List.length_append]
            exact h
          case measure => simp [intOf]; omega
    · obtain rfl : i = N := by omega
      have HRow := Lib.hid hr
      have HB := Lib.hid hb
      clear hr hlk hb
      go_wp2_with fail
      go_ret
      have h := HRow.out
      rw [HN.out, List.take_length] at h
      exact ⟨_, rfl, Wl.of_row h, HB.out⟩
end Go.Proofs.YthgabbkpjffdnaaDoor
