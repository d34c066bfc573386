/-
  The walk of the document's Run. By an AI agent.
-/
import Derived.Test.YthldjdkjgiebaaaDriveRun
import Derived.Deep.RegionHeld3
import Derived.Deep.AppendLies
set_option linter.unusedSimpArgs false
set_option linter.unusedVariables false
namespace Go.Proofs.Ythldjdkjgiebaaa
open Go.RowKit Go.Shelf Go.Maps
open Mm (Mem Blk)
open Ac (A)
/-- Numbers as cells. -/
def da (f : Nat → Nat) (n : Nat) : Array Value := ((List.range n).map fun i => Value.int .i64 (f i : Int)).toArray
theorem da_size (f : Nat → Nat) (n : Nat) : (da f n).size = n := by simp [da]
theorem da_get (f : Nat → Nat) {n i : Nat} (h : i < n) : (da f n)[i]? = some (.int .i64 (f i : Int)) := by simp [da, h]
theorem da_set (f : Nat → Nat) (n i : Nat) (v : Nat) : (da f n).setIfInBounds i (.int .i64 (v : Int)) = da (upd f i v) n := by
  apply Array.ext_getElem?
  intro k
  rw [Array.getElem?_setIfInBounds]
  by_cases hk : k < n
  · by_cases e : i = k
    · subst e
      rw [da_get (upd f i v) hk, upd_same]; simp [da_size, hk]
    · rw [if_neg e, da_get _ hk, da_get _ hk, upd_other _ _ (Ne.symm e)]
  · by_cases e : i = k
    · subst e
      simp [da_size, hk, da]
    · rw [if_neg e]; simp [da, hk]
theorem info_int : (Try.prog.info? 3).map (fun i => (i.zero, i.size, i.bytes)) = some (some (.int .i64 0), 1, 8) := by kernel_rfl
theorem made_int (n : Nat) : madeCells (Value.int .i64 0).cells n = da (fun _ => 0) n := by
  unfold madeCells da
  apply Array.ext_getElem?
  intro k
  by_cases h : k < n <;> simp [h, Value.cells, List.getElem?_replicate, Nat.mod_one]
theorem make_int (n : Nat) (h : n ≤ 1000000) (W : World) : (Instr.makeSlice 40 (.int .i64 (n : Int)) (.int .i64 (n : Int))).run Try.prog W = .ok (.slice (some ⟨W.heap.size, 0, none⟩) n n) (W.alloc (.cells (da (fun _ => 0) n) 3)) := by
  obtain ⟨i0, hi, hz0, hz1, hz2⟩ := info_parts info_int
  have hr := run_make (P := Try.prog) W 40 3 i0 (.int .i64 0) Try.underlying40 hi hz0 .i64 .i64 n n (by omega) (Int.le_refl _) (by rw [hz2]; omega) (by omega)
  simp only [Int.toNat_natCast] at hr
  rw [hr, hz1, Nat.mul_one, made_int]
/-- What the document's arena is not made of. -/
def alien2 : Obj → Bool
  | .cells _ t _ => t != 38 && t != 76 && t != 35
  | _ => true
/-- The document's run under way. -/
def RrI (B : Nat) (w : World) (G0 : Nat → Prop) (xa n : Nat) (s : Ru) (v : Value) (bd : Nat) (W : World) : Prop :=
  W.ownsRow w.heap.size 44 7 v s.ts.length (rows7 s.ts) ∧ w.heap.size ≤ bd ∧ W.heap[bd]? = some (.cells (da (fun i => (s.gs i).length) n) 3 (0, 0)) ∧ ∃ G, Rx B W xa s.S G ∧ Tn G0 G w W
/-- What the document's Run comes to. -/
def RRuns (B : Nat) (w : World) (G0 : Nat → Prop) (xa : Nat) (s : Ru) (e : Ending) (w' : World) : Prop :=
  ∃ v, e = .returned v ∧ w'.ownsRow w.heap.size 44 7 v s.ts.length (rows7 s.ts) ∧ ∃ G, Rx B w' xa s.S G ∧ Tn G0 G w w'
section
variable {B : Nat} {w W W' : World} {G0 G : Nat → Prop} {xa n bd : Nat} {s : Ru} {v : Value} {S : Mem}
theorem Rx.noalien (h : Rx B W xa S G) {k : Nat} (hk : G k) {o : Obj} (ho : W.heap[k]? = some o) : alien2 o = false := by
  obtain ⟨u, g, r, rfl⟩ := h
  rcases hk with rfl | hk | ⟨b, hb, rfl⟩
  · rw [r.own] at ho; cases ho; rfl
  · obtain ⟨_, cs, e⟩ := own_typed r.list k hk
    rw [e] at ho; cases ho; rfl
  · rw [(r.row b hb).2] at ho; cases ho; rfl
theorem RrI.size (h : RrI B w G0 xa n s v bd W) : w.heap.size ≤ W.heap.size := let ⟨_, _, _, _, _, ht⟩ := h; ht.size
theorem RrI.below (h : RrI B w G0 xa n s v bd W) (hb : Below W.heap.size W W') : RrI B w G0 xa n s v bd W' := by
  obtain ⟨hr, h1, h2, G, hx, ht⟩ := h
  exact ⟨(KeepsAlien.below hb).row hr (fun _ => rfl), h1, (hb.block _ (Array.getElem?_eq_some_iff.1 h2).1).trans h2, G, hx.below hb (Nat.le_refl _), ht.trans (Tn.of_below hb)⟩
theorem RrI.fix (h : RrI B w G0 xa n s v bd W) {ad : Option Addr} {i : Nat} {u : Value} (hf : Fix w G0 ad i u) : ∃ b off, ad = some ⟨b, off, none⟩ ∧ W.cell? ⟨b, off + i, none⟩ = some u := let ⟨_, _, _, _, _, ht⟩ := h; hf.tn ht
theorem RrI.done (h : RrI B w G0 xa n s v bd W) {i : Nat} (hi : i < n) : W.cell? ⟨bd, i, none⟩ = some (.int .i64 ((s.gs i).length : Int)) := by
  obtain ⟨_, _, h2, _⟩ := h
  simp only [World.cell?, h2]
  simp [da_get _ hi]
theorem RrI.fz (h : RrI B w G0 xa n s v bd W) (i : Nat) : W.frozen? ⟨bd, i, none⟩ = false := by
  obtain ⟨_, _, h2, _⟩ := h
  simp [World.frozen?, h2]
end
/-- Behind an act, ahead of its step. -/
def RrM (B : Nat) (w : World) (G0 : Nat → Prop) (xa n : Nat) (s s' : Ru) (v : Value) (bd bx : Nat) (x : A) (W : World) : Prop :=
  W.ownsRow w.heap.size 44 7 v s.ts.length (rows7 s.ts) ∧ W.heap[bd]? = some (.cells (da (fun i => (s.gs i).length) n) 3 (0, 0)) ∧ W.heap[bx]? = some (.cells #[.int .i64 x.k, .int .u64 x.b, .int .i64 x.c, .int .u64 x.o, .int .u64 x.n] 42 (0, 0)) ∧ ∃ G, Rx B W xa s'.S G ∧ Tn G0 G w W
theorem box_cells {W : World} {b : Nat} {x : A} (h : W.heap[b]? = some (.cells #[.int .i64 x.k, .int .u64 x.b, .int .i64 x.c, .int .u64 x.o, .int .u64 x.n] 42 (0, 0))) : W.cell? ⟨b, 0, none⟩ = some (.int .i64 x.k) ∧ W.cell? ⟨b, 1, none⟩ = some (.int .u64 x.b) ∧ W.cell? ⟨b, 2, none⟩ = some (.int .i64 x.c) ∧ W.cell? ⟨b, 3, none⟩ = some (.int .u64 x.o) ∧ W.cell? ⟨b, 4, none⟩ = some (.int .u64 x.n) := by
  refine ⟨?_, ?_, ?_, ?_, ?_⟩ <;> simp [World.cell?, h]
theorem RrI.act {B : Nat} {w W : World} {G0 : Nat → Prop} {xa n bd bx : Nat} {s s' : Ru} {v : Value} {x : A} {vv : Int} (h : RrI B w G0 xa n s v bd W) (hB : B ≤ w.heap.size) (hb : W.heap[bx]? = some (.cells #[.int .i64 x.k, .int .u64 x.b, .int .i64 x.c, .int .u64 x.o, .int .u64 x.n] 42 (0, 0))) (hM : MustIt s.S x vv s'.S) :
    Calls Try.prog 22 #[.pointer (some ⟨xa, 0, none⟩), av x] W fun e W2 => e = .returned (.int .u64 vv) ∧ RrM B w G0 xa n s s' v bd bx x W2 := by
  obtain ⟨hr, h1, h2, G, hx, ht⟩ := h
  refine (hM B W xa G hx (Nat.le_trans hB ht.size)).mono ?_
  rintro e W2 ⟨rfl, G', hx', ht'⟩
  have hal : ∀ (k : Nat) (o : Obj), W.heap[k]? = some o → alien2 o = true → W2.heap[k]? = some o := fun k o hk ho => (ht'.block k (Array.getElem?_eq_some_iff.1 hk).1 (fun e => by have := hx.noalien e hk; rw [this] at ho; cases ho)).trans hk
  refine ⟨rfl, ⟨hr.1, ?_⟩, hal _ _ h2 rfl, hal _ _ hb rfl, G', hx', ht.trans ht'⟩
  rcases hr.2 with hn | ⟨g, cap, cur, e, hb', hgg, rest⟩
  · exact .inl hn
  · exact .inr ⟨g, cap, cur, e, hb', hal g _ hgg rfl, rest⟩
/-- Behind the append. -/
theorem RrM.grown {B : Nat} {w W W1 : World} {G0 : Nat → Prop} {xa n bd bx : Nat} {s s' : Ru} {v v' : Value} {x : A} {o : Obj} (h : RrM B w G0 xa n s s' v bd bx x W) (hbd : w.heap.size ≤ bd) (hown : W1.ownsRow w.heap.size 44 7 v' s'.ts.length (rows7 s'.ts)) (hg : (W.alloc o).grownBy W1 v.ownBlock) {j d : Nat} (hgs : ∀ i, (s'.gs i).length = upd (fun i => (s.gs i).length) j (d + 1) i) (hj : j < n) (hd : (s.gs j).length = d) :
    W1.cell? ⟨bd, j, none⟩ = some (.int .i64 (d : Int)) ∧ W1.frozen? ⟨bd, j, none⟩ = false ∧ W1.heap[bx]? = some (.cells #[.int .i64 x.k, .int .u64 x.b, .int .i64 x.c, .int .u64 x.o, .int .u64 x.n] 42 (0, 0)) ∧ RrI B w G0 xa n s' v' bd (W1.setCell ⟨bd, j, none⟩ (.int .i64 ((d : Int) + 1))) := by
  obtain ⟨hr, h2, hb, G, hx, ht⟩ := h
  have hz : (W.alloc o).heap.size = W.heap.size + 1 := by simp
  have hk : ∀ k, k < W.heap.size → (∀ cs, W.heap[k]? ≠ some (.cells cs 44 (0, 0))) ∨ k < w.heap.size → W1.heap[k]? = W.heap[k]? := fun k hk hh => by
    rw [hg.block k (by omega) (fun e => by
      obtain ⟨h1, cs, h3⟩ := own_typed hr k e.symm
      rcases hh with hh | hh
      · exact hh cs h3
      · omega), Below.heap_alloc _ _ _ hk]
  have e2 : W1.heap[bd]? = some (.cells (da (fun i => (s.gs i).length) n) 3 (0, 0)) := (hk bd (Array.getElem?_eq_some_iff.1 h2).1 (.inl (fun cs e => by rw [h2] at e; cases e))).trans h2
  have eb := (hk bx (Array.getElem?_eq_some_iff.1 hb).1 (.inl (fun cs e => by rw [hb] at e; cases e))).trans hb
  have hG1 : ∀ k, G k → W1.heap[k]? = W.heap[k]? := fun k e => hk k (hx.foot e).2 (.inl (fun cs e' => by have := hx.noalien e e'; cases this))
  have hGb : ∀ k, G k → k ≠ bd := fun k e e' => by
    subst e'
    have := hx.noalien e h2
    cases this
  refine ⟨by simp only [World.cell?, e2]; simp [da_get _ hj, hd], by simp [World.frozen?, e2], eb, ⟨hown.1, ?_⟩, hbd, ?_, G, hx.keep fun k e => (Below.heap_setCell _ _ _ _ (hGb k e)).trans (hG1 k e), ⟨hg.os.trans ht.os, hg.tape.trans ht.tape, hg.output.trans ht.output, by have := hg.size; have := ht.size; simp [World.setCell]; omega, fun k h1 h3 => ?_, ht.foot⟩⟩
  · rcases hown.2 with hn | ⟨g, cap, cur, e, hb', hgg, rest⟩
    · exact .inl hn
    · exact .inr ⟨g, cap, cur, e, hb', (Below.heap_setCell _ _ _ _ (fun e' => by
        have e'' : g = bd := e'
        subst e''; rw [hgg] at e2; cases e2)).trans hgg, rest⟩
  · rw [heap_setc e2]
    have := da_set (fun i => (s.gs i).length) n j (d + 1)
    rw [show ((d + 1 : Nat) : Int) = (d : Int) + 1 by omega] at this
    rw [this, show (fun i => (s'.gs i).length) = upd (fun i => (s.gs i).length) j (d + 1) from funext hgs]
  · rw [Below.heap_setCell _ _ _ _ (fun e' => by have e'' : k = bd := e'; omega)]
    exact (hk k (Nat.lt_of_lt_of_le h1 ht.size) (.inr h1)).trans (ht.block k h1 h3)
set_option maxRecDepth 100000 in
set_option maxHeartbeats 8000000 in
/-- ████ The document's Run. ████ -/
theorem rrun_any {B : Nat} {w : World} {G0 : Nat → Prop} {xa n : Nat} {a : Nat → Option Addr} {N c : Nat → Nat} {S0 : Mem} (h : Rx B w xa S0 G0) (hB : B ≤ w.heap.size) (hn1 : 1 ≤ n) (hn : n ≤ 1000)
    (xs : Nat → Nat → A) (hx : ∀ w1, Below B w w1 → ∀ i, i < n → ∀ j, j < N i → ActAt (a i) w1 j (xs i j)) (hfit : ∀ i, i < n → ∀ j, j < N i → Fits (xs i j)) (hS : Mid S0 0)
    (al : Option Addr) (cl : Nat) (hl : ∀ i, i < n → Fix w G0 al i (.slice (a i) (N i) (c i)))
    (ap : Option Addr) (m cp : Nat) (hm : m ≤ 1000) (ps : Nat → Int) (hp : ∀ i, i < m → Fix w G0 ap i (.int .i64 (ps i))) (who : Nat → Nat) (hw : ∀ i, i < m → who i < n ∧ ps i % (n : Int) = (who i : Int)) :
    Calls Try.prog 9 #[.pointer (some ⟨xa, 0, none⟩), .slice al n cl, .slice ap m cp] w (RRuns B w G0 xa (rn N xs who S0 m)) := by
  obtain ⟨i0, hi, hz0, hz1, hz2⟩ := info_parts info_rstep
  have Hz0 := Lib.hid hz0; clear hz0
  have Hz1 := Lib.hid hz1; clear hz1
  have Hz2 := Lib.hid hz2; clear hz2
  have Hi := Lib.hid hi; clear hi
  have h0 : ∀ k, G0 k → B ≤ k := fun k hk => (h.foot hk).1
  have HMID := Lib.hid (rn_mid (n := n) (m := m) hS (by omega) (fun k hk => (hw k hk).1) hfit)
  have hbz : Below w.heap.size w ((w.alloc (.cells #[] 44)).alloc (.cells (da (fun _ => 0) n) 3)) := ((Below.refl _ w).alloc (Nat.le_refl _) _).alloc (by simp) _
  have J0 : Hid (RrI B w G0 xa n (rn N xs who S0 0) (.slice (some ⟨w.heap.size, 0, none⟩) 0 0) (w.heap.size + 1) ((w.alloc (.cells #[] 44)).alloc (.cells (da (fun _ => 0) n) 3))) := Lib.hid (by
    refine ⟨⟨rfl, .inr ⟨w.heap.size, 0, #[], rfl, Nat.le_refl _, ?_, Nat.le_refl _, by unfold maxLen; omega, rfl, rfl⟩⟩, by omega, ?_, G0, h.below hbz (Nat.le_refl _), Tn.of_below hbz⟩
    · rw [Below.heap_alloc _ _ _ (by simp)]; exact World.alloc_heap_new w _
    · have := World.alloc_heap_new (w.alloc (.cells #[] 44)) (.cells (da (fun _ => 0) n) 3)
      rwa [World.size_alloc] at this)
  have mk := fun W => make_int n (by omega) W
  have HX := Lib.hid hx; clear hx
  have HFIT := Lib.hid hfit; clear hfit
  have HL := Lib.hid hl; clear hl
  have HP := Lib.hid hp; clear hp
  have HW := Lib.hid hw; clear hw
  have H0' := Lib.hid h0; clear h0
  clear h hbz
  have hnz : decide ((0 : Int) < (n : Int)) = true := by simp; omega
  go_enter Try.func9, Try.ntmps9
  go_wp2
  clear mk
  obtain ⟨bd, hbd⟩ : ∃ bd, bd = w.heap.size + 1 := ⟨_, rfl⟩
  rw [← hbd] at J0 ⊢
  have hbdw : w.heap.size ≤ bd := by omega
  clear hbd
  go_loopw [7, 9, 10, 11] (fun v i _ _ wr => ∃ k : Nat, k ≤ m ∧ i = .int .i64 k ∧ Hid (RrI B w G0 xa n (rn N xs who S0 k) v bd wr)) (fun _ i _ _ _ => m - (intOf i).toNat)
  case atStart => exact ⟨0, by omega, rfl, J0⟩
  case round =>
    obtain ⟨k, hk, rfl, HJ⟩ := hrel
    clear J0
    by_cases hlt : k < m
    · obtain ⟨hwn, hwe⟩ := HW.out k hlt
      obtain ⟨bp, op, rfl, pc⟩ := HJ.out.fix (HP.out k hlt)
      obtain ⟨bl, ol, rfl, lc⟩ := HJ.out.fix (HL.out (who k) hwn)
      obtain ⟨hmid, htl, hgl⟩ := HMID.out k hk
      have HN : Hid (∀ v wr, RrI B w G0 xa n (stepRu N xs (who k) (rn N xs who S0 k)) v bd wr → ∃ k' : Nat, k' = k + 1 ∧ Hid (RrI B w G0 xa n (rn N xs who S0 k') v bd wr)) := Lib.hid (fun v wr hh => ⟨k + 1, rfl, Lib.hid hh⟩)
      have hX := fun w1 (hb : Below B w w1) => HX.out w1 hb (who k) hwn
      have hFI := HFIT.out (who k) hwn
      generalize rn N xs who S0 k = s at *
      obtain ⟨j, hj⟩ : ∃ j, j = who k := ⟨_, rfl⟩
      rw [← hj] at hwn hwe lc HN hX hFI
      clear hj
      have KR := Lib.hid (fun w1 => rrest_any (ps k) n j hn1 hn hwe w1)
      have hltZ : (k : Int) < (m : Int) := by omega
      have hjZ : (j : Int) < (n : Int) := by omega
      have hj0 : (0 : Int) ≤ (j : Int) := by omega
      have hs := HJ.out.size
      have dc := HJ.out.done hwn
      generalize hpk : ps k = pk at *
      clear hwe hpk
      obtain ⟨d, hd⟩ : ∃ d, d = (s.gs j).length := ⟨_, rfl⟩
      by_cases hmore : (s.gs j).length < N j
      · have hdN : d < N j := by omega
        have hbW : Below B w wr := by obtain ⟨_, _, _, G, _, ht⟩ := HJ.out; exact ht.below H0'.out hB
        have hX2 := hX wr hbW d hdN
        have hnx := hmid.nx (by omega) (hFI d hdN)
        have hst := stepRu_more (xs := xs) hmore
        rw [← hd] at hst dc
        have hd1000 : d ≤ 1000 := by have := hgl j; omega
        generalize stepRu N xs j s = s' at *
        have ets : s'.ts = s.ts ++ [((j : Int), xs j d, (nxv s.S (xs j d)).1)] := by rw [hst]
        have egs : ∀ i, (s'.gs i).length = upd (fun i => (s.gs i).length) j (d + 1) i := fun i => by
          rw [hst]
          by_cases e : i = j
          · subst e; simp [hd, upd_same]
          · simp [upd_other _ _ e]
        have eS : s'.S = (nxv s.S (xs j d)).2 := by rw [hst]
        clear hst
        rw [← eS] at hnx
        have HM := Lib.hid hnx.must
        clear hnx eS
        generalize (nxv s.S (xs j d)).1 = vv at *
        generalize xs j d = x at *
        obtain ⟨xk, xb, xc, xo, xn⟩ := x
        obtain ⟨ba, oa, haj, c0, c1, c2, c3, c4⟩ := hX2
        dsimp only at c0 c1 c2 c3 c4
        rw [haj] at lc
        generalize N j = Nj at *
        generalize c j = cj at *
        have ETS := Lib.hid ets; clear ets
        have HDD := Lib.hid hd.symm
        have EGS := Lib.hid egs; clear egs
        have up : ∀ {p : Addr} {v : Value}, wr.cell? p = some v → ∀ o : Obj, (wr.alloc o).cell? p = some v := fun {p} {v} h o => (((Below.refl _ wr).alloc (Nat.le_refl _) o).cell (World.block_lt_of_cell? _ _ h)).trans h
        have dcA := up dc
        have lcA := up lc
        have c0A := up c0
        have c1A := up c1
        have c2A := up c2
        have c3A := up c3
        have c4A := up c4
        clear hX hFI hgl hmid HMID hmore hd haj hbW up
        go_wp2_with fail
        with_reducible refine (KR.out _).mono ?_
        rintro e w' ⟨rfl, rfl⟩
        go_wp2_with fail
        go_region
        all_goals go_wp2_with fail
        go_region
        all_goals go_wp2_with fail
        obtain ⟨W, hW⟩ : ∃ W, W = (wr.alloc (.cells #[.int .i64 xk, .int .u64 (xb : Int), .int .i64 xc, .int .u64 (xo : Int), .int .u64 (xn : Int)] 42)).drew.drew := ⟨_, rfl⟩
        obtain ⟨bx, hbx⟩ : ∃ bx, bx = wr.heap.size := ⟨_, rfl⟩
        have kb : W.heap[bx]? = some (.cells #[.int .i64 xk, .int .u64 (xb : Int), .int .i64 xc, .int .u64 (xo : Int), .int .u64 (xn : Int)] 42 (0, 0)) := by rw [hW, hbx]; exact World.alloc_heap_new wr _
        have hbW : Below wr.heap.size wr W := by rw [hW]; exact (((Below.refl _ wr).alloc (Nat.le_refl _) _).drew).drew
        rw [← hW, ← hbx]
        have HJW := HJ.out.below hbW
        have hJd := HJW.below (Below.refl _ W).drew
        have KD := Lib.hid (RrI.act (x := ⟨xk, xb, xc, xo, xn⟩) hJd hB kb HM.out)
        unfold av at KD
        dsimp only at KD
        have hsW := hJd.size
        obtain ⟨e0, e1, e2, e3, e4⟩ := box_cells (x := ⟨xk, xb, xc, xo, xn⟩) kb
        dsimp only at e0 e1 e2 e3 e4
        clear hW hbx kb hbW HJW hJd dcA lcA c0A c1A c2A c3A c4A c0 c1 c2 c3 c4 dc lc pc
        have KP0 : Hid (W.drew.cell? ⟨bx, 0, none⟩ = some (.int .i64 xk) ∧ W.drew.cell? ⟨bx, 1, none⟩ = some (.int .u64 (xb : Int)) ∧ W.drew.cell? ⟨bx, 2, none⟩ = some (.int .i64 xc) ∧ W.drew.cell? ⟨bx, 3, none⟩ = some (.int .u64 (xo : Int)) ∧ W.drew.cell? ⟨bx, 4, none⟩ = some (.int .u64 (xn : Int))) := Lib.hid ⟨e0, e1, e2, e3, e4⟩
        go_region_held3 (fun w' => w'.cell? ⟨bx, 0, none⟩ = some (.int .i64 xk) ∧ w'.cell? ⟨bx, 1, none⟩ = some (.int .u64 (xb : Int)) ∧ w'.cell? ⟨bx, 2, none⟩ = some (.int .i64 xc) ∧ w'.cell? ⟨bx, 3, none⟩ = some (.int .u64 (xo : Int)) ∧ w'.cell? ⟨bx, 4, none⟩ = some (.int .u64 (xn : Int)))
          (first | (with_reducible exact KP1.out) | (with_reducible exact KPA.out _) | (with_reducible exact KP.out) | (with_reducible exact KP0.out))
          (first
            | (go_at_call 22; (with_reducible refine KD.out.mono ?_); rintro e W3 ⟨rfl, hM3⟩; have KP := Lib.hid (box_cells hM3.2.2.1); dsimp only at KP; have KPA := Lib.hid (fun o : Obj => box_cells ((Below.heap_alloc W3 o bx (Array.getElem?_eq_some_iff.1 hM3.2.2.1).1).trans hM3.2.2.1)); dsimp only at KPA; have HM3 := Lib.hid hM3; have hs3 : w.heap.size ≤ W3.heap.size := (by obtain ⟨_, _, _, G, _, ht⟩ := hM3; exact ht.size); clear hM3)
            | (refine step_append_lies _ (by rfl) _ _ _ (by rfl) w.heap.size 44 i0 _ 7 56 Try.underlying32 Hi.out Hz0.out Hz1.out Hz2.out rfl (by omega) _ s.ts.length _ (by rfl) (HM3.out.1.alloc _) ⟨W3.heap.size, 0, none⟩ 1 1 (cs7 (j : Int) ⟨xk, xb, xc, xo, xn⟩ vv) (by rfl) (by rfl) (cell_seven _ _ _ _ _) (cs7_one _ _ _) (by omega) (by unfold maxLen; omega) (by omega) (by simp; omega) (W3.heap.size + 1) (by simp) ?_; intro gg cap w1 hown1 hgrow hat hlt1; obtain ⟨q1, q2, q3, q4⟩ := HM3.out.grown hbdw (by rw [ETS.out, rows7_snoc]; simpa using hown1) hgrow EGS.out hwn HDD.out; have KP1 := Lib.hid (box_cells q3); dsimp only at KP1; have Q4 := Lib.hid q4; clear q3 q4 hown1 hgrow hat)
            | fail)
        all_goals obtain ⟨k', rfl, HJ3⟩ := HN.out _ _ Q4.out
        all_goals clear KP0 KP KPA KP1 KD HM3 e0 e1 e2 e3 e4
        all_goals go_wp2
        all_goals go_roundw
        all_goals first | exact ⟨k + 1, by omega, by go_num, HJ3⟩ | (simp [intOf]; omega)
      · have hdN : ¬ d < N j := by omega
        rw [← hd] at dc
        have HJ2 := Lib.hid (HJ.out.below (Below.refl _ wr).drew)
        have hst := stepRu_none (xs := xs) hmore
        rw [hst] at HN
        clear hX hFI hgl hmid HMID hmore hst hd
        go_wp2_with fail
        with_reducible refine (KR.out _).mono ?_
        rintro e w' ⟨rfl, rfl⟩
        go_wp2_with fail
        go_region
        all_goals go_wp2
        all_goals obtain ⟨k', rfl, HJ3⟩ := HN.out _ _ HJ2.out
        all_goals go_roundw
        all_goals first | exact ⟨k + 1, by omega, by go_num, HJ3⟩ | (simp [intOf]; omega)
    · obtain rfl : k = m := by omega
      go_wp2
      go_ret
      obtain ⟨hr, _, _, hms⟩ := HJ.out
      exact ⟨_, rfl, hr, hms⟩
/-- The document's arena, made. -/
theorem rx_new {B : Nat} (n : Nat) (h1 : 1 ≤ n) (h2 : n ≤ 65536) (w : World) (hB : B ≤ w.heap.size) :
    ∃ G, Rx B (w.alloc (.cells #[.int .i64 (n : Int), .int .i64 0, .int .u64 0, .slice none 0 0] 38)) w.heap.size ⟨n, 0, 0, []⟩ G ∧ ∀ k, G k → k = w.heap.size := by
  refine ⟨_, ⟨.slice none 0 0, fun _ => 0, ⟨hB, ?_, ⟨by simp [encB], .inl ⟨rfl, rfl⟩⟩, fun b hb => by simp at hb, fun b hb => by simp at hb, ⟨h1, h2, trivial, Nat.zero_le _, fun b hb => by simp at hb⟩⟩, rfl⟩, fun k hk => ?_⟩
  · have := heap_alloc_new w (.cells #[.int .i64 (n : Int), .int .i64 0, .int .u64 0, .slice none 0 0] 38)
    simpa using this
  · rcases hk with hk | hk | ⟨b, hb, _⟩
    · exact hk
    · cases hk
    · simp at hb
end Go.Proofs.Ythldjdkjgiebaaa
