/-
  The walks of the document's Blocks, Alloc, Free. By an AI agent.
-/
import Derived.Test.YthldjdkjgiebaaaArenaRef2
import Derived.Test.YthldjdkjgiebaaaArenaColl
import Derived.Deep.RegionLaw
set_option linter.unusedSimpArgs false
namespace Go.Proofs.Ythldjdkjgiebaaa
open Go.RowKit Go.Maps
open Mm (Mem Blk)
theorem info_block : (Try.prog.info? 76).map (fun i => (i.zero, i.size, i.bytes)) = some (some (.agg #[.int .u64 0, .slice none 0 0]), 2, 32) := by kernel_rfl
theorem cell_two (W : World) (a b : Value) (t : TypeId) : ∀ j u, [a, b][j]? = some u → (W.alloc (.cells #[a, b] t)).cell? ((⟨W.heap.size, 0, none⟩ : Addr).add j) = some u := by
  have e : (W.alloc (.cells #[a, b] t)).heap[W.heap.size]? = some (.cells #[a, b] t (0, 0)) := heap_alloc_new W _
  intro j u hj
  have hlt := (List.getElem?_eq_some_iff.1 hj).1
  rw [Addr.add_lit]
  simp only [World.cell?, Nat.zero_add]
  rw [e]
  simpa using hj
theorem own_mono {w : World} {B base : Nat} {e : TypeId} {size : Nat} {v : Value} {n : Nat} {xs : List Value} (h : w.ownsRow base e size v n xs) (hB : B ≤ base) : w.ownsRow B e size v n xs := by
  refine ⟨h.1, ?_⟩
  rcases h.2 with hn | ⟨g, cap, cur, rfl, hb, r⟩
  · exact .inl hn
  · exact .inr ⟨g, cap, cur, rfl, by omega, r⟩
namespace Mm
theorem del_snoc (l : List Blk) (b : Blk) (n : Nat) : del (l ++ [b]) n = del l n ++ (if b.1 = n then [] else [b]) := by
  induction l with
  | nil => simp only [List.nil_append, del]
  | cons c r ih =>
    simp only [List.cons_append, del, ih]
    split <;> simp
end Mm
def nos' (l : List Blk) : List Nat := l.map (·.1)
/-- A new row of words. -/
def Row8 (ss : List Nat) (w : World) (e : Ending) (w' : World) : Prop := ∃ v, e = .returned v ∧ w'.ownsRow w.heap.size 35 1 v ss.length (us ss) ∧ Below w.heap.size w w'
set_option maxRecDepth 100000 in
set_option maxHeartbeats 1000000 in
theorem rblocks_any {B : Nat} {w : World} {x : Nat} {S : Mem} {G : Nat → Prop} (r : Rx B w x S G) :
    Calls Try.prog 15 #[.pointer (some ⟨x, 0, none⟩)] w (Row8 (nos' S.L) w) := by
  obtain ⟨v, h, r, rfl⟩ := r
  have hlen := len_le_used r.good
  obtain ⟨va, vc, rfl⟩ := r.lens
  have HA := Lib.hid fun (w' : World) (hb : Below w.heap.size w w') => (r.keep fun k hk => hb.block k (r.foot hk).2)
  clear r
  obtain ⟨N, hN⟩ : ∃ N, N = S.L.length := ⟨_, rfl⟩
  rw [← hN] at HA hlen
  have HN := Lib.hid hN; clear hN
  obtain ⟨i0, hi, hz0, hz1, hz2⟩ := info_parts info_u64
  have Hz0 := Lib.hid hz0; clear hz0
  have Hz1 := Lib.hid hz1; clear hz1
  have Hz2 := Lib.hid hz2; clear hz2
  have Hi := Lib.hid hi; clear hi
  have r0 := World.ownsRow_lit (base := w.heap.size) (e := 35) (size := 1) w #[] 0 (by omega) (by decide) (by decide)
  have HR0 := Lib.hid r0; clear r0
  have HB0 := Lib.hid ((Below.refl w.heap.size w).alloc (Nat.le_refl _) (.cells #[] 35))
  go_enter Try.func15, Try.ntmps15
  go_wp2_with fail
  go_loopw [3, 4] (fun u i wr => ∃ (k : Nat), k ≤ N ∧ i = .int .i64 k ∧ wr.ownsRow w.heap.size 35 1 u k (us (nos' (S.L.take k))) ∧ Below w.heap.size w wr) (fun _ i _ => N - (intOf i).toNat)
  case atStart => exact ⟨0, Nat.zero_le _, rfl, HR0.out, HB0.out⟩
  case round =>
    obtain ⟨k, hk, rfl, hr, hb⟩ := hrel
    have c3 := (HA.out _ hb).c3
    by_cases hlt : k < N
    · have hltZ : (k : Int) < (N : Int) := by omega
      obtain ⟨b, hbk⟩ : ∃ b, S.L[k]? = some b := ⟨_, List.getElem?_eq_getElem (by rw [← HN.out]; exact hlt)⟩
      obtain ⟨g, c, e, c1, -⟩ := (HA.out _ hb).at hbk
      injection e with e1 e2 e3
      subst e1; subst e3
      clear e2
      unfold ku at c1
      have HT : Hid (us (nos' (S.L.take (k + 1))) = us (nos' (S.L.take k)) ++ [.int .u64 (b.1 : Int)]) := Lib.hid (by rw [List.take_add_one, hbk]; simp [us, nos', ku])
      clear hbk
      have HR := Lib.hid hr; clear hr
      have HB := Lib.hid hb; clear hb
      go_wp2_with (at_builtin; refine wpList_append_own_at _ rfl _ _ 27 rfl w.heap.size 35 i0 (.int .u64 0) 1 8 Try.underlying27 Hi.out Hz0.out Hz1.out Hz2.out rfl (by decide) _ _ _ rfl (HR.out.alloc _) ⟨wr.heap.size, 0, none⟩ 1 1 [.int .u64 (b.1 : Int)] rfl rfl (cell_one_new _ _ _) (by simp [Value.oneCell']) (by unfold maxLen; omega) (by omega) (by have := HB.out.size; simp; omega) ?_; intro v' w3 hown' hgrow _ hat)
      go_roundw
      case rel => exact ⟨k + 1, by omega, by go_num, by rw [HT.out]; exact hown', HB.out.trans (((Below.refl _ wr).alloc HB.out.size _).trans ⟨hgrow.os, hgrow.tape, hgrow.output, hgrow.size, fun j hj => hgrow.block j (by have := HB.out.size; simp; omega) (fun e => by have := (HR.out.lt j e.symm).1; omega)⟩)⟩
      case measure => simp [intOf]; omega
    · obtain rfl : k = N := by omega
      have HR := Lib.hid hr; clear hr
      have HB := Lib.hid hb; clear hb
      go_wp2_with fail
      go_ret
      refine ⟨_, rfl, ?_, HB.out⟩
      have := HR.out
      rw [HN.out, List.take_length] at this
      rw [show (nos' S.L).length = S.L.length by simp [nos']]
      exact this
theorem not_append {l m : List Blk} {n : Nat} : Mm.del (l ++ m) n = Mm.del l n ++ Mm.del m n := by
  induction l with
  | nil => rfl
  | cons c r ih =>
    simp only [List.cons_append, Mm.del, ih]
    split <;> simp
theorem up_uniq : ∀ {l : List Blk} {lo hi : Nat}, Mm.Up lo hi l → ∀ {i j : Nat} {c d : Blk}, l[i]? = some c → l[j]? = some d → c.1 = d.1 → i = j
  | a :: l, lo, hi, hu, 0, 0, c, d, _, _, _ => rfl
  | a :: l, lo, hi, hu, 0, j + 1, c, d, hi', hj', e => by
    simp at hi' hj'
    subst hi'
    have := (hu.2.2.mem d (List.mem_of_getElem? hj')).1
    omega
  | a :: l, lo, hi, hu, i + 1, 0, c, d, hi', hj', e => by
    simp at hi' hj'
    subst hj'
    have := (hu.2.2.mem c (List.mem_of_getElem? hi')).1
    omega
  | a :: l, lo, hi, hu, i + 1, j + 1, c, d, hi', hj', e => by
    have := up_uniq (l := l) hu.2.2 (i := i) (j := j) (c := c) (d := d) (by simpa using hi') (by simpa using hj') e
    omega
/-- The list is another one. -/
theorem Rf.lists {B : Nat} {w w1 : World} {x : Nat} {v v' : Value} {h : Nat → Nat} {S : Mem} (r : Rf B w x v h S) (hB : B ≤ w.heap.size) (hb : Below w.heap.size w w1) (n : Nat) {ws : List Int} (hg : Mm.get S.L n = some ws) (hr : w1.ownsRow w.heap.size 76 2 v' (Mm.del S.L n).length (encB h (Mm.del S.L n))) :
    Rf B (w1.setCell ⟨x, 3, none⟩ v') x v' h (S.free n) ∧ Tn (Gp x v h S) (Gp x v' h (S.free n)) w (w1.setCell ⟨x, 3, none⟩ v') := by
  have r1 := r.keep (w' := w1) fun k hk => hb.block k (r.foot hk).2
  have hx := r.lt
  refine ⟨⟨r.xB, heap_setc r1.own 3 _, own_mono (own_keep hr fun k hk => Below.heap_setCell _ _ _ _ (fun e => by have h1 := (hr.lt k hk).1; have e' : k = x := e; omega)) hB, fun b hb' => ?_, fun c hc d hd => r.inj c (Mm.mem_del.1 hc).1 d (Mm.mem_del.1 hd).1, r.good.free hg⟩, ⟨hb.os, hb.tape, hb.output, by simpa [World.setCell] using hb.size, fun k hk hF => (Below.heap_setCell _ _ _ _ (fun e => hF (.inl e))).trans (hb.block k hk), fun k hk => ?_⟩⟩
  · have hb2 := (Mm.mem_del.1 hb').1
    exact ⟨(r.row b hb2).1, (Below.heap_setCell _ _ _ _ (r.xh b hb2)).trans (r1.row b hb2).2⟩
  · rcases hk with hk | hk | ⟨c, hc, hk⟩
    · exact .inl (.inl hk)
    · exact .inr (hr.lt k hk).1
    · exact .inl (.inr (.inr ⟨c, (Mm.mem_del.1 hc).1, hk⟩))
set_option maxRecDepth 100000 in
set_option maxHeartbeats 2000000 in
theorem rfree_bad {B : Nat} {w : World} {x : Nat} {S : Mem} {G : Nat → Prop} (r : Rx B w x S G) {b : Nat} (hg : Mm.get S.L b = none) (hf : S.faults ≤ 1000000000000) :
    Calls Try.prog 36 #[.pointer (some ⟨x, 0, none⟩), .int .u64 (b : Int)] w (RTurns (.int .i64 13) B x S.fault G w) := by
  obtain ⟨v, h, r, rfl⟩ := r
  have KP := Lib.hid (r.place_none hg)
  have c1 := r.c1
  have f1 := r.fz 1
  have HF := Lib.hid r.faulted
  clear r hg
  obtain ⟨f, hf'⟩ : ∃ f, f = S.faults := ⟨_, rfl⟩
  rw [← hf'] at c1 HF hf
  clear hf'
  go_enter Try.func36, Try.ntmps36
  go_wp2_with (go_at_call 43; refine KP.out.mono ?_; rintro e w' ⟨rfl, rfl⟩)
  go_ret
  exact ⟨rfl, _, ⟨_, _, HF.out.1, rfl⟩, HF.out.2⟩
set_option maxRecDepth 100000 in
set_option maxHeartbeats 2000000 in
theorem rfree_ok {B : Nat} {w : World} {x : Nat} {S : Mem} {G : Nat → Prop} (r : Rx B w x S G) (hB : B ≤ w.heap.size) {n : Nat} {ws : List Int} (hg : Mm.get S.L n = some ws) :
    Calls Try.prog 36 #[.pointer (some ⟨x, 0, none⟩), .int .u64 (n : Int)] w (RTurns (.int .i64 0) B x (S.free n) G w) := by
  obtain ⟨v, h, r, rfl⟩ := r
  have KP := Lib.hid (r.place_some hg)
  have hlen := len_le_used r.good
  have HL := Lib.hid fun (w1 : World) (v' : Value) (hb : Below w.heap.size w w1) hr => r.lists (v' := v') hB hb n hg hr
  have HK := Lib.hid fun (w' : World) (hb : Below w.heap.size w w') => (r.keep fun k hk => hb.block k (r.foot hk).2)
  have HPos : Hid (∀ k b, S.L[k]? = some b → (b.1 = n ↔ k = Mm.pos S.L n)) := Lib.hid fun k b hb => by
    have h1 := Mm.pos_at hg
    constructor
    · intro e
      have hup := r.good.up
      exact up_uniq hup hb h1 e
    · intro e
      subst e
      rw [h1] at hb
      cases hb
      rfl
  obtain ⟨va, vc, rfl⟩ := r.lens
  have f3 := r.fz 3
  have hxs := r.lt
  clear r hg
  obtain ⟨N, hN⟩ : ∃ N, N = S.L.length := ⟨_, rfl⟩
  rw [← hN] at HK hlen HL
  have HN := Lib.hid hN
  rw [← hN]
  clear hN
  obtain ⟨p, hp⟩ : ∃ p, p = Mm.pos S.L n := ⟨_, rfl⟩
  rw [← hp] at KP HPos
  clear hp
  obtain ⟨i0, hi, hz0, hz1, hz2⟩ := info_parts info_block
  have Hz0 := Lib.hid hz0; clear hz0
  have Hz1 := Lib.hid hz1; clear hz1
  have Hz2 := Lib.hid hz2; clear hz2
  have Hi := Lib.hid hi; clear hi
  have r0 := World.ownsRow_lit (base := w.heap.size) (e := 76) (size := 2) w #[] 0 (by omega) (by decide) (by decide)
  have HR0 := Lib.hid r0; clear r0
  have HB0 := Lib.hid ((Below.refl w.heap.size w).alloc (Nat.le_refl _) (.cells #[] 76))
  go_enter Try.func36, Try.ntmps36
  go_wp2_with fail
  with_reducible refine KP.out.mono ?_
  rintro e w' ⟨rfl, rfl⟩
  go_wp2_with fail
  go_loopw [6, 7] (fun u i wr => ∃ (k : Nat) (vq : Value), vq = u ∧ k ≤ N ∧ i = .int .i64 k ∧ wr.ownsRow w.heap.size 76 2 vq (Mm.del (S.L.take k) n).length (encB h (Mm.del (S.L.take k) n)) ∧ Below w.heap.size w wr) (fun _ i _ => N - (intOf i).toNat)
  case atStart => exact ⟨0, _, rfl, Nat.zero_le _, rfl, HR0.out, HB0.out⟩
  case round =>
    clear HR0 HB0
    obtain ⟨k, vq, rfl, hk, rfl, hr, hb⟩ := hrel
    have c3 := (HK.out _ hb).c3
    by_cases hlt : k < N
    · have hltZ : (k : Int) < (N : Int) := by omega
      obtain ⟨b, hbk⟩ : ∃ b, S.L[k]? = some b := ⟨_, List.getElem?_eq_getElem (by rw [← HN.out]; exact hlt)⟩
      obtain ⟨g, c, e, c1, c2⟩ := (HK.out _ hb).at hbk
      injection e with e1 e2 e3
      subst e1; subst e3
      clear e2
      have HT : Hid (Mm.del (S.L.take (k + 1)) n = Mm.del (S.L.take k) n ++ (if b.1 = n then [] else [b])) := Lib.hid (by rw [List.take_add_one, hbk]; exact Mm.del_snoc _ _ _)
      have hps := HPos.out k b hbk
      clear hbk
      by_cases hkp : k = p
      · have hkB : ((k : Int) != (p : Int)) = false := by simp; omega
        have hbn := hps.2 hkp
        have HT2 := HT.out
        rw [if_pos hbn, List.append_nil] at HT2
        have HT3 := Lib.hid HT2
        clear hbn HT2 hps hkp
        have HR := Lib.hid hr; clear hr
        have HB := Lib.hid hb; clear hb
        go_wp2_with fail
        go_roundw
        case rel => exact ⟨k + 1, vq, rfl, by omega, by go_num, by rw [HT3.out]; exact HR.out, HB.out⟩
        case measure => simp [intOf]; omega
      · have hkB : ((k : Int) != (p : Int)) = true := by simp; omega
        have hbn : ¬ b.1 = n := fun e => hkp (hps.1 e)
        have HT2 := HT.out
        rw [if_neg hbn] at HT2
        have HT3 := Lib.hid HT2
        have hdl : (Mm.del (S.L.take k) n).length ≤ 65536 := by
          have h1 : ∀ l : List Blk, (Mm.del l n).length ≤ l.length := fun l => by
            induction l with
            | nil => simp [Mm.del]
            | cons a l ih => simp only [Mm.del]; split <;> simp <;> omega
          have h2 := h1 (S.L.take k)
          have h3 := List.length_take_le k S.L
          omega
        clear hbn HT2 hps hkp HT
        have HR := Lib.hid hr; clear hr
        have HB := Lib.hid hb; clear hb
        unfold ku at c1
        unfold sl at c2
        obtain ⟨bn, hbn⟩ : ∃ bn, bn = b.2.length := ⟨_, rfl⟩
        rw [← hbn] at c2
        have Hbn := Lib.hid hbn; clear hbn
        go_wp2_with (at_builtin; refine wpList_append_own_at _ rfl _ _ 36 rfl w.heap.size 76 i0 (.agg #[.int .u64 0, .slice none 0 0]) 2 32 Try.underlying36 Hi.out Hz0.out Hz1.out Hz2.out rfl (by decide) _ _ _ rfl (HR.out.alloc _) ⟨wr.heap.size, 0, none⟩ 1 1 [.int .u64 (b.1 : Int), .slice (some ⟨h b.1, 0, none⟩) bn bn] rfl rfl (cell_two _ _ _ _) (by simp [Value.oneCell']) (by unfold maxLen; omega) (by omega) (by have := HB.out.size; simp; omega) ?_; intro v' w3 hown' hgrow _ hat)
        go_roundw
        case rel =>
          refine ⟨k + 1, v', rfl, by omega, by go_num, ?_, HB.out.trans (((Below.refl _ wr).alloc HB.out.size _).trans ⟨hgrow.os, hgrow.tape, hgrow.output, hgrow.size, fun j hj => hgrow.block j (by have := HB.out.size; simp; omega) (fun e => by have := (HR.out.lt j e.symm).1; omega)⟩)⟩
          rw [HT3.out, encB_append, List.length_append]
          rw [Hbn.out] at hown'
          exact hown'
        case measure => simp [intOf]; omega
    · obtain rfl : k = N := by omega
      have f3' := (HK.out _ hb).fz 3
      obtain ⟨ua, ul, uc, rfl⟩ : ∃ a l c, vq = .slice a l c := by
        rcases hr.2 with ⟨e1, e2⟩ | ⟨g2, c2, cur2, e1, _⟩
        · exact ⟨none, 0, 0, e1⟩
        · exact ⟨_, _, _, e1⟩
      have hL := HL.out _ _ hb (by rw [HN.out, List.take_length] at hr; exact hr)
      have HLr := Lib.hid hL
      clear hr hL
      have HB := Lib.hid hb; clear hb
      go_wp2_with fail
      go_ret
      exact ⟨rfl, _, ⟨_, _, HLr.out.1, rfl⟩, HLr.out.2⟩
set_option maxRecDepth 100000 in
set_option maxHeartbeats 2000000 in
theorem ralloc_no {B : Nat} {w : World} {x : Nat} {S : Mem} {G : Nat → Prop} (r : Rx B w x S G) (n : Int) (hn : n < 1 ∨ (S.room : Int) - (Mm.used S.L : Int) < n) :
    Calls Try.prog 35 #[.pointer (some ⟨x, 0, none⟩), .int .i64 n] w (Gives (.int .u64 0) w) := by
  obtain ⟨v, h, r, rfl⟩ := r
  have KU := Lib.hid fun n => quiet_of (rused_any (S := S) ⟨v, h, r.drewN n, rfl⟩)
  have c0 := r.c0
  have hfit := r.good.fits
  have hr2 := r.good.r2
  clear r
  generalize Mm.used S.L = us at *
  generalize S.room = rm at *
  have hw1 : IntKind.i64.wrap ((rm : Int) - (us : Int)) = (rm : Int) - (us : Int) := IntWalk.i64_in _ (by omega)
  by_cases h1 : n < 1
  · clear hn
    have d1 : decide (n < 1) = true := by simpa using h1
    go_enter Try.func35, Try.ntmps35
    go_wp2
    go_quiet ((go_at_call 44; with_reducible exact KU.out _))
    go_wp2
    go_ret
    exact ⟨rfl, below_drewN _ _⟩
  · have h2 : (rm : Int) - (us : Int) < n := by omega
    have d1 : decide (n < 1) = false := by simpa using h1
    have d2 : decide ((rm : Int) - (us : Int) < n) = true := by simpa using h2
    clear hn h1 h2 hfit hr2
    go_enter Try.func35, Try.ntmps35
    go_wp2
    go_quiet ((go_at_call 44; with_reducible exact KU.out _))
    go_wp2
    go_ret
    exact ⟨rfl, below_drewN _ _⟩
theorem encB_congr {h h' : Nat → Nat} : ∀ {l : List Blk}, (∀ b ∈ l, h' b.1 = h b.1) → encB h' l = encB h l
  | [], _ => rfl
  | b :: r, hb => by
    simp only [encB]
    rw [hb b List.mem_cons_self, encB_congr fun c hc => hb c (List.mem_cons_of_mem _ hc)]
/-- A block is given out: the append's run, and the arena behind it. -/
theorem Rf.alloced {B : Nat} {w : World} {x : Nat} {v : Value} {h : Nat → Nat} {S : Mem} (r : Rf B w x v h S) (hB : B ≤ w.heap.size) (n : Nat) (h1 : 1 ≤ n) (hn : n ≤ S.room - Mm.used S.L) (q : Nat) (W : World)
    (hW : (w.drewN q).setCell ⟨x, 2, none⟩ (.int .u64 ((S.last : Int) + 1)) = W) (ty : TypeId) :
    ∃ v' w', (Builtin.append_ #[36, 36] ty #[v, .slice (some ⟨w.heap.size + 1, 0, none⟩) 1 1]).run Try.prog
        (((W.alloc (.cells (wd (List.replicate n 0)) 35)).alloc (.cells #[.int .u64 ((S.last : Int) + 1), .slice (some ⟨w.heap.size, 0, none⟩) n n] 76)).drew) = .ok v' w' ∧ (∃ a l c, v' = .slice a l c) ∧
      w'.frozen? ⟨x, 3, none⟩ = false ∧ w'.cell? ⟨x, 3, none⟩ = some v ∧ (w'.setCell ⟨x, 3, none⟩ v').cell? ⟨x, 2, none⟩ = some (.int .u64 ((S.last : Int) + 1)) ∧
      ∃ h', Rf B (w'.setCell ⟨x, 3, none⟩ v') x v' h' (S.alloc n) ∧ Tn (Gp x v h S) (Gp x v' h' (S.alloc n)) w (w'.setCell ⟨x, 3, none⟩ v') := by
  obtain ⟨i0, hi, hz0, hz1, hz2⟩ := info_parts info_block
  have hlen := len_le_used r.good
  have hxl := r.lt
  have hsz : W.heap.size = w.heap.size := by subst hW; simp [World.setCell, World.drewN]
  have hown : W.heap[x]? = some (.cells #[.int .i64 (S.room : Int), .int .i64 (S.faults : Int), .int .u64 ((S.last : Int) + 1), v] 38 (0, 0)) := by
    subst hW
    exact heap_setc (w := w.drewN q) r.own 2 _
  have hoth : ∀ k, k ≠ x → W.heap[k]? = w.heap[k]? := fun k hk => by
    subst hW
    exact Below.heap_setCell _ _ _ _ hk
  obtain ⟨W3, hW3⟩ : ∃ W3, ((W.alloc (.cells (wd (List.replicate n 0)) 35)).alloc (.cells #[.int .u64 ((S.last : Int) + 1), .slice (some ⟨w.heap.size, 0, none⟩) n n] 76)).drew = W3 := ⟨_, rfl⟩
  have hs3 : W3.heap.size = w.heap.size + 2 := by rw [← hW3]; simp [World.drew, hsz]
  have hold : ∀ k, k < w.heap.size → W3.heap[k]? = W.heap[k]? := fun k hk => by
    rw [← hW3]
    exact (Below.heap_alloc _ _ k (by simp [hsz]; omega)).trans (Below.heap_alloc W _ k (by omega))
  have hnew0 : W3.heap[w.heap.size]? = some (.cells (wd (List.replicate n 0)) 35 (0, 0)) := by
    rw [← hW3]
    refine (Below.heap_alloc _ _ _ (by simp [hsz])).trans ?_
    rw [← hsz]
    exact heap_alloc_new W _
  have hnews : ∀ j u, [Value.int .u64 ((S.last : Int) + 1), .slice (some ⟨w.heap.size, 0, none⟩) n n][j]? = some u → W3.cell? ((⟨w.heap.size + 1, 0, none⟩ : Addr).add j) = some u := fun j u hj => by
    have := cell_two (W.alloc (.cells (wd (List.replicate n 0)) 35)) (.int .u64 ((S.last : Int) + 1)) (.slice (some ⟨w.heap.size, 0, none⟩) n n) 76 j u hj
    simp only [World.size_alloc, hsz] at this
    rw [← hW3]
    exact this
  have hvne : ∀ k, v.ownBlock = some k → k ≠ x := fun k hk e => own_ne r.list r.own (by decide) (e ▸ hk)
  have hl3 : W3.ownsRow B 76 2 v S.L.length (encB h S.L) := own_keep r.list fun k hk => (hold k (r.list.lt k hk).2).trans (hoth k (hvne k hk))
  obtain ⟨v', w', hrun, hr', hgr, hnil, hat⟩ := run_append_own_at (P := Try.prog) W3 B 36 ty 76 i0 (.agg #[.int .u64 0, .slice none 0 0]) 2 32 Try.underlying36 hi hz0 hz1 hz2 rfl (by decide) v S.L.length (encB h S.L) hl3 ⟨w.heap.size + 1, 0, none⟩ 1 1 _ rfl hnews (by simp [Value.oneCell']) (by unfold maxLen; omega) (by omega) (by omega)
  have hx' : w'.heap[x]? = W.heap[x]? := (hgr.block x (by omega) (fun e => hvne x e.symm rfl)).trans (hold x hxl)
  have hup : ∀ b ∈ S.L, b.1 ≠ S.last + 1 := fun b hb => by have := (r.good.up.mem b hb).2; omega
  have hrowne : ∀ b ∈ S.L, v.ownBlock ≠ some (h b.1) := fun b hb => own_ne r.list (r.row b hb).2 (by decide)
  have hbl : ∀ b ∈ S.L, h b.1 < w.heap.size := fun b hb => (Array.getElem?_eq_some_iff.1 (r.row b hb).2).1
  have hnewne : v.ownBlock ≠ some w.heap.size := fun e => by have := (r.list.lt _ e).2; omega
  have hs' : w.heap.size + 2 ≤ w'.heap.size := by have := hgr.size; omega
  have hvnx : ∀ k, v'.ownBlock = some k → k ≠ x := fun k hk e => by
    rcases hat with hat | hat
    · exact hvne k (hat ▸ hk) e
    · rw [hk] at hat; cases hat; omega
  refine ⟨v', w', by rw [hW3]; exact hrun, ?_, by simp [World.frozen?, hx', hown], by simp [World.cell?, hx', hown], ?_, fun k => if k = S.last + 1 then w.heap.size else h k, ⟨r.xB, ?_, ?_, fun c hc => ?_, fun c hc d hd e => ?_, r.good.alloc h1 hn⟩, ⟨?_, ?_, ?_, by simp [World.setCell]; omega, fun k hk hF => ?_, fun k hk => ?_⟩⟩
  · rcases hr'.2 with ⟨e1, e2⟩ | ⟨g2, c2, cur2, e1, _⟩
    · exact ⟨none, 0, 0, e1⟩
    · exact ⟨_, _, _, e1⟩
  · have e := heap_setc (hx'.trans hown) 3 v'
    simp [World.cell?, e]
  · rw [heap_setc (hx'.trans hown) 3 v']
    rfl
  · refine own_keep ?_ fun k hk => Below.heap_setCell _ _ _ _ (hvnx k hk)
    show w'.ownsRow _ _ _ _ (S.L ++ [(S.last + 1, List.replicate n 0)]).length (encB _ (S.L ++ [(S.last + 1, List.replicate n 0)]))
    rw [encB_append, encB_congr (h := h) (fun b hb => if_neg (hup b hb)), List.length_append]
    simpa [encB, ku, sl] using hr'
  · rcases List.mem_append.1 hc with hc | hc
    · rw [if_neg (hup c hc)]
      exact ⟨(r.row c hc).1, (Below.heap_setCell _ _ _ _ (r.xh c hc)).trans ((hgr.block _ (by have := hbl c hc; omega) (fun e => hrowne c hc e.symm)).trans ((hold _ (hbl c hc)).trans ((hoth _ (r.xh c hc)).trans (r.row c hc).2)))⟩
    · simp at hc
      subst hc
      simp only [if_true]
      exact ⟨hB, (Below.heap_setCell _ _ _ _ (fun e => by have e' : w.heap.size = x := e; omega)).trans ((hgr.block _ (by omega) (fun e => hnewne e.symm)).trans hnew0)⟩
  · rcases List.mem_append.1 hc with hc | hc <;> rcases List.mem_append.1 hd with hd | hd
    · rw [if_neg (hup c hc), if_neg (hup d hd)] at e
      exact r.inj c hc d hd e
    · simp at hd
      subst hd
      simp only [if_true] at e
      rw [if_neg (hup c hc)] at e
      have := hbl c hc
      omega
    · simp at hc
      subst hc
      simp only [if_true] at e
      rw [if_neg (hup d hd)] at e
      have := hbl d hd
      omega
    · simp at hc hd
      rw [hc, hd]
  · exact hgr.os.trans (by rw [← hW3, ← hW]; rfl)
  · exact hgr.tape.trans (by rw [← hW3, ← hW]; rfl)
  · exact hgr.output.trans (by rw [← hW3, ← hW]; rfl)
  · have hkx : k ≠ x := fun e => hF (.inl e)
    exact (Below.heap_setCell _ _ _ _ hkx).trans ((hgr.block k (by omega) (fun e => hF (.inr (.inl e.symm)))).trans ((hold k hk).trans (hoth k hkx)))
  · rcases hk with hk | hk | ⟨c, hc, hk⟩
    · exact .inl (.inl hk)
    · rcases hat with hat | hat
      · exact .inl (.inr (.inl (hat ▸ hk)))
      · rw [hk] at hat; cases hat; exact .inr (by omega)
    · rcases List.mem_append.1 hc with hc | hc
      · dsimp only at hk
        rw [if_neg (hup c hc)] at hk
        exact .inl (.inr (.inr ⟨c, hc, hk⟩))
      · simp at hc
        subst hc
        simp only [if_true] at hk
        exact .inr (by omega)
/-- append, its run told ahead. -/
theorem step_run {ops : Array Oper} {o : Oper} {a : Act} {w : World} {K : Act → World → Prop} {Q : Exit → Act → World → Prop} {E : Prop}
    (hgd : o.guard = none) (s x : Operand) (ty : TypeId) (ho : o.op = Op.call { callee := Callee.builtin Builtin.append, args := #[s, x], argTypes := #[ty, ty] })
    (v u v' : Value) (w' : World) (hs : a.eval s = v) (hx : a.eval x = u) (ht : (Builtin.append_ #[ty, ty] o.type #[v, u]).run Try.prog w = .ok v' w')
    (h : K (a.put o.dst v') w') :
    if Region.wanted o (yielded ops a.tmps) = true then Oper.wp Try.prog o a w K Q else E := by
  have hw : Region.wanted o (yielded ops a.tmps) = true := by simp [Region.wanted, hgd]
  rw [if_pos hw]
  unfold Oper.wp
  simp [execOp, ho, resolve, invoke, builtin, hs, hx, ht, Result.andThen]
  exact h
set_option maxRecDepth 100000 in
set_option maxHeartbeats 2000000 in
theorem ralloc_ok {B : Nat} {w : World} {x : Nat} {S : Mem} {G : Nat → Prop} (r : Rx B w x S G) (hB : B ≤ w.heap.size) (n : Nat) (h1 : 1 ≤ n) (hn : n ≤ S.room - Mm.used S.L) (hl : S.last ≤ 1000000000000) :
    Calls Try.prog 35 #[.pointer (some ⟨x, 0, none⟩), .int .i64 (n : Int)] w (RTurns (.int .u64 ((S.last : Int) + 1)) B x (S.alloc n) G w) := by
  obtain ⟨v, h, r, rfl⟩ := r
  have KU := Lib.hid fun n => quiet_of (rused_any (S := S) ⟨v, h, r.drewN n, rfl⟩)
  have c0 := r.c0
  have c2 := r.c2
  have c3 := r.c3
  have f2 := r.fz 2
  have f3 := r.fz 3
  have hfit := r.good.fits
  have hr2 := r.good.r2
  have hlt := r.lt
  have hd1 : decide ((n : Int) < 1) = false := by simp; omega
  have hd2 : decide ((S.room : Int) - (Mm.used S.L : Int) < (n : Int)) = false := by simp; omega
  have hn6 : n ≤ 1000000 := by omega
  have hw1 : IntKind.i64.wrap ((S.room : Int) - (Mm.used S.L : Int)) = (S.room : Int) - (Mm.used S.L : Int) := IntWalk.i64_in _ (by omega)
  obtain ⟨va, vc, rfl⟩ := r.lens
  have HR := Lib.hid fun q => r.alloced hB n h1 hn q _ rfl 36; clear r
  obtain ⟨us, eus⟩ : ∃ us, us = Mm.used S.L := ⟨_, rfl⟩
  obtain ⟨rm, erm⟩ : ∃ rm, rm = S.room := ⟨_, rfl⟩
  obtain ⟨la, ela⟩ : ∃ la, la = S.last := ⟨_, rfl⟩
  obtain ⟨N, eN⟩ : ∃ N, N = S.L.length := ⟨_, rfl⟩
  have hus : us ≤ 1000000 := by omega
  rw [← eus] at KU
  rw [← ela] at c2 hl HR ⊢
  rw [← eus, ← erm] at hw1 hd2
  rw [← erm] at c0
  rw [← eN] at c3 HR ⊢
  clear eus erm ela eN hfit hr2 hn
  go_enter Try.func35, Try.ntmps35
  go_wp2
  go_quiet ((go_at_call 44; with_reducible exact KU.out _))
  go_wp2
  obtain ⟨W, hW⟩ : ∃ W, (w.drewN nq).setCell ⟨x, 2, none⟩ (.int .u64 ((la : Int) + 1)) = W := ⟨_, rfl⟩
  rw [hW]
  have k2 : W.cell? ⟨x, 2, none⟩ = some (.int .u64 ((la : Int) + 1)) := by rw [← hW]; simp [c2, go_sem]
  have k3 : W.cell? ⟨x, 3, none⟩ = some (.slice va N vc) := by rw [← hW]; simp [c3, go_sem]
  have hsz : W.heap.size = w.heap.size := by rw [← hW]; simp [World.setCell, World.drewN]
  have k2a : ∀ o, (W.alloc o).cell? ⟨x, 2, none⟩ = some (.int .u64 ((la : Int) + 1)) := fun o => by rw [World.cell?_of_block (w := W) (a := ⟨x, 2, none⟩) (Below.heap_alloc W _ x (by omega))]; exact k2
  have k3a : ∀ o, (W.alloc o).cell? ⟨x, 3, none⟩ = some (.slice va N vc) := fun o => by rw [World.cell?_of_block (w := W) (a := ⟨x, 3, none⟩) (Below.heap_alloc W _ x (by omega))]; exact k3
  have mk := fun W => make_any n hn6 W
  obtain ⟨v', w', hrun, ⟨a', l', c', rfl⟩, hfz', hc3', hc2', h', ha, ht⟩ := HR.out nq
  rw [hW] at hrun
  have HA := Lib.hid ha; clear ha
  have HT := Lib.hid ht; clear ht
  clear hW
  have HRUN := Lib.hid hrun; clear hrun
  go_region_law (
    refine step_run ?k1 (.tmp 29) (.tmp 37) 36 ?k2 (.slice va N vc) (.slice (some ⟨w.heap.size + 1, 0, none⟩) 1 1) (.slice a' l' c') w' ?k3 ?k4 ?k5 ?_
    case k1 => rfl
    case k2 => rfl
    case k3 => simp [go_sem]
    case k4 => simp [go_sem]
    case k5 => exact HRUN.out)
  all_goals go_wp2
  all_goals go_ret
  all_goals exact ⟨rfl, _, ⟨_, _, HA.out, rfl⟩, HT.out⟩
end Go.Proofs.Ythldjdkjgiebaaa
