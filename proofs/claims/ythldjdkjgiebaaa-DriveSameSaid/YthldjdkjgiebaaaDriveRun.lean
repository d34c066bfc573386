/-
  The walk of Run. By an AI agent.
-/
import Derived.Test.YthldjdkjgiebaaaDriveMany
import Derived.Test.YthldjdkjgiebaaaDriveSteps
set_option linter.unusedSimpArgs false
set_option linter.unusedVariables false
namespace Go.Proofs.Ythldjdkjgiebaaa
open Go.RowKit Go.Shelf Go.Maps
open Mm (Mem Blk)
open Ac (A)
/-- How far a run has come: the memory, what each routine was answered, all steps. -/
structure Ru where
  S : Mem
  gs : Nat → List Int
  ts : List (Int × A × Int)
noncomputable def stepRu (N : Nat → Nat) (xs : Nat → Nat → A) (i : Nat) (s : Ru) : Ru :=
  if (s.gs i).length < N i then ⟨(nxv s.S (xs i (s.gs i).length)).2, upd s.gs i (s.gs i ++ [(nxv s.S (xs i (s.gs i).length)).1]), s.ts ++ [((i : Int), xs i (s.gs i).length, (nxv s.S (xs i (s.gs i).length)).1)]⟩ else s
noncomputable def rn (N : Nat → Nat) (xs : Nat → Nat → A) (who : Nat → Nat) (S0 : Mem) : Nat → Ru
  | 0 => ⟨S0, fun _ => [], []⟩
  | k + 1 => stepRu N xs (who k) (rn N xs who S0 k)
section
variable {N : Nat → Nat} {xs : Nat → Nat → A} {who : Nat → Nat} {S0 : Mem} {n m : Nat}
theorem stepRu_more {i : Nat} {s : Ru} (h : (s.gs i).length < N i) : stepRu N xs i s = ⟨(nxv s.S (xs i (s.gs i).length)).2, upd s.gs i (s.gs i ++ [(nxv s.S (xs i (s.gs i).length)).1]), s.ts ++ [((i : Int), xs i (s.gs i).length, (nxv s.S (xs i (s.gs i).length)).1)]⟩ := by unfold stepRu; rw [if_pos h]
theorem stepRu_none {i : Nat} {s : Ru} (h : ¬ (s.gs i).length < N i) : stepRu N xs i s = s := by unfold stepRu; rw [if_neg h]
theorem rn_mid (hS : Mid S0 0) (hm : m ≤ 1000000) (hw : ∀ k, k < m → who k < n) (hfit : ∀ i, i < n → ∀ j, j < N i → Fits (xs i j)) : ∀ k, k ≤ m → Mid (rn N xs who S0 k).S k ∧ (rn N xs who S0 k).ts.length ≤ k ∧ ∀ i, ((rn N xs who S0 k).gs i).length ≤ k
  | 0, _ => ⟨hS, Nat.le_refl _, fun _ => Nat.le_refl _⟩
  | k + 1, h => by
    obtain ⟨h1, h2, h3⟩ := rn_mid hS hm hw hfit k (by omega)
    show Mid (stepRu N xs (who k) (rn N xs who S0 k)).S (k + 1) ∧ (stepRu N xs (who k) (rn N xs who S0 k)).ts.length ≤ k + 1 ∧ ∀ i, ((stepRu N xs (who k) (rn N xs who S0 k)).gs i).length ≤ k + 1
    by_cases hlt : ((rn N xs who S0 k).gs (who k)).length < N (who k)
    · rw [stepRu_more hlt]
      refine ⟨h1.next (by omega) (hfit _ (hw k (by omega)) _ hlt), by simp; omega, fun i => ?_⟩
      by_cases e : i = who k
      · subst e; simp [upd_same]; exact h3 _
      · simp [upd_other _ _ e]; have := h3 i; omega
    · rw [stepRu_none hlt]
      exact ⟨h1.mono (by omega), by omega, fun i => by have := h3 i; omega⟩
end
/-- What Run comes to. -/
def Runs (B : Nat) (w : World) (F0 : Nat → Prop) (H0 : Nat → Nat → Prop) (p n : Nat) (q : Nat → Nat) (a : Nat → Option Addr) (N c : Nat → Nat) (s : Ru) (e : Ending) (w' : World) : Prop :=
  ∃ v, e = .returned v ∧ w'.ownsRow w.heap.size 63 7 v s.ts.length (rows7 s.ts) ∧ ∃ F H, Ms B w' p s.S n q a N c s.gs F H ∧ Tn (Tot n F0 H0) (Tot n F H) w w'
/-- A run under way. -/
def RuI (B : Nat) (w : World) (F0 : Nat → Prop) (H0 : Nat → Nat → Prop) (p n : Nat) (q : Nat → Nat) (a : Nat → Option Addr) (N c : Nat → Nat) (s : Ru) (v : Value) (W : World) : Prop :=
  W.ownsRow w.heap.size 63 7 v s.ts.length (rows7 s.ts) ∧ ∃ F H, Ms B W p s.S n q a N c s.gs F H ∧ Tn (Tot n F0 H0) (Tot n F H) w W
section
variable {B : Nat} {w W W' : World} {F0 : Nat → Prop} {H0 : Nat → Nat → Prop} {p n : Nat} {q : Nat → Nat} {a : Nat → Option Addr} {N c : Nat → Nat} {s : Ru} {v : Value}
theorem RuI.below (h : RuI B w F0 H0 p n q a N c s v W) (hb : Below W.heap.size W W') : RuI B w F0 H0 p n q a N c s v W' := by
  obtain ⟨hr, F, H, hm, ht⟩ := h
  exact ⟨(KeepsAlien.below hb).row hr (fun _ => rfl), F, H, hm.below hb, ht.trans (Tn.of_below hb)⟩
theorem RuI.size (h : RuI B w F0 H0 p n q a N c s v W) : w.heap.size ≤ W.heap.size := let ⟨_, _, _, _, ht⟩ := h; ht.size
theorem RuI.fix (h : RuI B w F0 H0 p n q a N c s v W) {ad : Option Addr} {i : Nat} {u : Value} (hf : Fix w (Tot n F0 H0) ad i u) : ∃ b off, ad = some ⟨b, off, none⟩ ∧ W.cell? ⟨b, off + i, none⟩ = some u := let ⟨_, _, _, _, ht⟩ := h; hf.tn ht
/-- The picked routine has an act. -/
theorem RuI.more (h : RuI B w F0 H0 p n q a N c s v W) (h0 : ∀ k, Tot n F0 H0 k → B ≤ k) (hB : B ≤ w.heap.size) {i : Nat} (hi : i < n) {xs : Nat → Nat → A} (hm : (s.gs i).length < N i) (hl : (s.gs i).length ≤ 1000000) (hx : ∀ w1, Below B w w1 → ActAt (a i) w1 (s.gs i).length (xs i (s.gs i).length))
    (hD : DoesIt s.S (xs i (s.gs i).length) (nxv s.S (xs i (s.gs i).length)).1 (nxv s.S (xs i (s.gs i).length)).2) :
    Calls Try.prog 24 #[.pointer (some ⟨p, 0, none⟩), rv (q i)] W fun e W2 => e = .returned (.tuple #[av (xs i (s.gs i).length), .int .u64 (nxv s.S (xs i (s.gs i).length)).1, .bool true]) ∧
      W2.ownsRow w.heap.size 63 7 v s.ts.length (rows7 s.ts) ∧ ∃ F H, Ms B W2 p (stepRu N xs i s).S n q a N c (stepRu N xs i s).gs F H ∧ Tn (Tot n F0 H0) (Tot n F H) w W2 := by
  obtain ⟨hr, F, H, hms, ht⟩ := h
  have hbW : Below B w W := ht.below h0 hB
  refine (goon_more (hms.du hi) (Nat.le_trans hB ht.size) hm hl _ _ (fun w1 hb => hx w1 (hbW.trans hb)) hD).mono ?_
  rintro e W2 ⟨rfl, F', H', hd', ht'⟩
  obtain ⟨hm2, ht2⟩ := hms.step hi hd' ht'
  have hal : KeepsAlien W W2 := fun k o hk ho => (ht2.block k (Array.getElem?_eq_some_iff.1 hk).1 (fun e => by have := hms.noalien e hk; rw [this] at ho; cases ho)).trans hk
  rw [stepRu_more hm]
  exact ⟨rfl, hal.row hr (fun _ => rfl), F', _, hm2, ht.trans ht2⟩
theorem RuI.none (h : RuI B w F0 H0 p n q a N c s v W) {i : Nat} (hi : i < n) {xs : Nat → Nat → A} (hm : ¬ (s.gs i).length < N i) :
    Calls Try.prog 24 #[.pointer (some ⟨p, 0, none⟩), rv (q i)] W fun e W2 => e = .returned (.tuple #[av ⟨0, 0, 0, 0, 0⟩, .int .u64 0, .bool false]) ∧ RuI B w F0 H0 p n q a N c (stepRu N xs i s) v W2 := by
  have h' := h
  obtain ⟨hr, F, H, hms, ht⟩ := h'
  refine (goon_end _ (hms.ro i hi) (by omega)).mono ?_
  rintro e W2 ⟨rfl, hb⟩
  rw [stepRu_none hm]
  exact ⟨rfl, h.below hb⟩
/-- A row of steps that grows. -/
theorem RuI.grown {s' : Ru} {W1 : World} {v' : Value} {o : Obj} (hrow : W.ownsRow w.heap.size 63 7 v s.ts.length (rows7 s.ts)) (hm : ∃ F H, Ms B W p s'.S n q a N c s'.gs F H ∧ Tn (Tot n F0 H0) (Tot n F H) w W)
    (hown : W1.ownsRow w.heap.size 63 7 v' s'.ts.length (rows7 s'.ts)) (hg : (W.alloc o).grownBy W1 v.ownBlock) : RuI B w F0 H0 p n q a N c s' v' W1 := by
  obtain ⟨F, H, hms, ht⟩ := hm
  have hz : (W.alloc o).heap.size = W.heap.size + 1 := by simp
  have hk : ∀ k, k < W.heap.size → (k < w.heap.size ∨ Tot n F H k) → W1.heap[k]? = W.heap[k]? := fun k hk hh => by
    rw [hg.block k (by omega) (fun e => by
      obtain ⟨h1, cs, h2⟩ := own_typed hrow k e.symm
      rcases hh with hh | hh
      · omega
      · have := hms.noalien hh h2; cases this), Below.heap_alloc _ _ _ hk]
  refine ⟨hown, F, H, hms.keep fun k e => hk k (hms.foot e).2 (.inr e), ⟨hg.os.trans ht.os, hg.tape.trans ht.tape, hg.output.trans ht.output, by have := hg.size; have := ht.size; omega, fun k h1 h2 => (hk k (Nat.lt_of_lt_of_le h1 ht.size) (.inl h1)).trans (ht.block k h1 h2), ht.foot⟩⟩
end
set_option maxRecDepth 100000 in
set_option maxHeartbeats 8000000 in
/-- ████ Run. ████ -/
theorem drun_any {B : Nat} {w : World} {F0 : Nat → Prop} {H0 : Nat → Nat → Prop} {p n : Nat} {q : Nat → Nat} {a : Nat → Option Addr} {N c : Nat → Nat} {S0 : Mem} (h : Ms B w p S0 n q a N c (fun _ => []) F0 H0) (hB : B ≤ w.heap.size) (hn1 : 1 ≤ n) (hn : n ≤ 1000)
    (xs : Nat → Nat → A) (hx : ∀ w1, Below B w w1 → ∀ i, i < n → ∀ j, j < N i → ActAt (a i) w1 j (xs i j)) (hfit : ∀ i, i < n → ∀ j, j < N i → Fits (xs i j)) (hS : Mid S0 0)
    (al : Option Addr) (cl : Nat) (hl : ∀ i, i < n → Fix w (Tot n F0 H0) al i (rv (q i)))
    (ap : Option Addr) (m cp : Nat) (hm : m ≤ 1000) (ps : Nat → Int) (hp : ∀ i, i < m → Fix w (Tot n F0 H0) ap i (.int .i64 (ps i))) (who : Nat → Nat) (hw : ∀ i, i < m → who i < n ∧ ps i % (n : Int) = (who i : Int)) :
    Calls Try.prog 11 #[.pointer (some ⟨p, 0, none⟩), .slice al n cl, .slice ap m cp] w (Runs B w F0 H0 p n q a N c (rn N xs who S0 m)) := by
  obtain ⟨i0, hi, hz0, hz1, hz2⟩ := info_parts info_dstep
  have Hz0 := Lib.hid hz0; clear hz0
  have Hz1 := Lib.hid hz1; clear hz1
  have Hz2 := Lib.hid hz2; clear hz2
  have Hi := Lib.hid hi; clear hi
  have h0 : ∀ k, Tot n F0 H0 k → B ≤ k := fun k hk => (h.foot hk).1
  have HMID := Lib.hid (rn_mid (n := n) (m := m) hS (by omega) (fun k hk => (hw k hk).1) hfit)
  have J0 : Hid (RuI B w F0 H0 p n q a N c (rn N xs who S0 0) (.slice none 0 0) w) := Lib.hid ⟨World.ownsRow_nil w w.heap.size 63 7, F0, H0, h, Tn.refl _ _⟩
  have HX := Lib.hid hx; clear hx
  have HFIT := Lib.hid hfit; clear hfit
  have HL := Lib.hid hl; clear hl
  have HP := Lib.hid hp; clear hp
  have HW := Lib.hid hw; clear hw
  have H0' := Lib.hid h0; clear h0
  clear h
  have hne : ((n : Int) == 0) = false := by simp; omega
  go_enter Try.func11, Try.ntmps11
  go_wp2
  go_loopw [7, 9, 10, 11, 12, 13, 19] (fun v _ _ _ _ _ i wr => ∃ k : Nat, k ≤ m ∧ i = .int .i64 k ∧ Hid (RuI B w F0 H0 p n q a N c (rn N xs who S0 k) v wr)) (fun _ _ _ _ _ _ i _ => m - (intOf i).toNat)
  case atStart => exact ⟨0, by omega, rfl, J0⟩
  case round =>
    obtain ⟨k, hk, rfl, HJ⟩ := hrel
    by_cases hlt : k < m
    · obtain ⟨hwn, hwe⟩ := HW.out k hlt
      obtain ⟨bp, op, rfl, pc⟩ := HJ.out.fix (HP.out k hlt)
      obtain ⟨bl, ol, rfl, lc⟩ := HJ.out.fix (HL.out (who k) hwn)
      obtain ⟨hmid, htl, hgl⟩ := HMID.out k hk
      have HN : Hid (∀ v wr, RuI B w F0 H0 p n q a N c (stepRu N xs (who k) (rn N xs who S0 k)) v wr → ∃ k' : Nat, k' = k + 1 ∧ Hid (RuI B w F0 H0 p n q a N c (rn N xs who S0 k') v wr)) := Lib.hid (fun v wr hh => ⟨k + 1, rfl, Lib.hid hh⟩)
      have hX := fun w1 (hb : Below B w w1) => HX.out w1 hb (who k) hwn
      have hFI := HFIT.out (who k) hwn
      generalize rn N xs who S0 k = s at *
      obtain ⟨j, hj⟩ : ∃ j, j = who k := ⟨_, rfl⟩
      rw [← hj] at hwn hwe lc HN hX hFI
      clear hj
      have KR := Lib.hid (fun w1 => rest_any (ps k) n j hn1 hn hwe w1)
      have hltZ : (k : Int) < (m : Int) := by omega
      have hjZ : (j : Int) < (n : Int) := by omega
      have hj0 : (0 : Int) ≤ (j : Int) := by omega
      have hs := HJ.out.size
      generalize hpk : ps k = pk at *
      clear hwe hpk
      by_cases hmore : (s.gs j).length < N j
      · have KG := HJ.out.more H0'.out hB hwn hmore (by have := hgl j; omega) (fun w1 hb => hX w1 hb _ hmore) (hmid.nx (by omega) (hFI _ hmore)).does
        have ets : (stepRu N xs j s).ts = s.ts ++ [((j : Int), xs j (s.gs j).length, (nxv s.S (xs j (s.gs j).length)).1)] := by rw [stepRu_more hmore]
        generalize stepRu N xs j s = s' at *
        generalize (nxv s.S (xs j (s.gs j).length)).1 = vv at *
        generalize xs j (s.gs j).length = x at *
        obtain ⟨xk, xb, xc, xo, xn⟩ := x
        have KG' := Lib.hid KG
        have ETS := Lib.hid ets
        clear KG ets hX hFI hgl hmid HMID hmore
        go_wp2_with fail
        with_reducible refine (KR.out _).mono ?_
        rintro e w' ⟨rfl, rfl⟩
        go_wp2_with fail
        with_reducible refine KG'.out.mono ?_
        rintro e W2 ⟨rfl, hrow, hms⟩
        have HRow := Lib.hid hrow; clear hrow
        have HMS := Lib.hid hms; clear hms
        have hsz2 : w.heap.size ≤ W2.heap.size := by obtain ⟨F, H, _, ht⟩ := HMS.out; exact ht.size
        have HC7 : Hid (∀ i u, (cs7 (j : Int) ⟨xk, xb, xc, xo, xn⟩ vv)[i]? = some u → ((W2.alloc (.cells #[.int .i64 xk, .int .u64 (xb : Int), .int .i64 xc, .int .u64 (xo : Int), .int .u64 (xn : Int)] 42)).alloc (.cells #[.int .i64 (j : Int), .int .i64 xk, .int .u64 (xb : Int), .int .i64 xc, .int .u64 (xo : Int), .int .u64 (xn : Int), .int .u64 vv] 63)).cell? ((⟨W2.heap.size + 1, 0, none⟩ : Addr).add i) = some u) := Lib.hid (by
          have := cell_seven (W2.alloc (.cells #[.int .i64 xk, .int .u64 (xb : Int), .int .i64 xc, .int .u64 (xo : Int), .int .u64 (xn : Int)] 42)) (j : Int) ⟨xk, xb, xc, xo, xn⟩ vv 63
          rwa [World.size_alloc] at this)
        go_wp2_with (at_builtin; refine wpList_append_own_at _ rfl _ _ 47 rfl w.heap.size 63 i0 _ 7 56 Try.underlying47 Hi.out Hz0.out Hz1.out Hz2.out rfl (by decide) _ _ _ rfl ((HRow.out.alloc _).alloc _) ⟨W2.heap.size + 1, 0, none⟩ 1 1 (cs7 (j : Int) ⟨xk, xb, xc, xo, xn⟩ vv) rfl rfl HC7.out (cs7_one _ _ _) (by unfold maxLen; omega) (by omega) (by simp; omega) ?_; intro v' w3 hown' hgrow _ hat)
        have hJ2 : RuI B w F0 H0 p n q a N c s' v' w3 := RuI.grown (W := W2.alloc (.cells #[.int .i64 xk, .int .u64 (xb : Int), .int .i64 xc, .int .u64 (xo : Int), .int .u64 (xn : Int)] 42)) (s := s) (HRow.out.alloc _) (by
            obtain ⟨F, H, hm', ht⟩ := HMS.out
            exact ⟨F, H, hm'.below ((Below.refl _ _).alloc (Nat.le_refl _) _), ht.trans (Tn.of_below ((Below.refl _ _).alloc (Nat.le_refl _) _))⟩) (by rw [ETS.out, rows7_snoc]; simpa using hown') hgrow
        obtain ⟨k', rfl, HJ2⟩ := HN.out _ _ hJ2
        clear hJ2 hown' hgrow hat
        all_goals go_wp2
        all_goals go_roundw
        all_goals first | exact ⟨k + 1, by omega, by go_num, HJ2⟩ | (simp [intOf]; omega)
      · have KG := Lib.hid (HJ.out.none (xs := xs) hwn hmore)
        clear hX hFI hgl hmid HMID hmore
        generalize stepRu N xs j s = s' at *
        go_wp2_with fail
        with_reducible refine (KR.out _).mono ?_
        rintro e w' ⟨rfl, rfl⟩
        go_wp2_with fail
        with_reducible refine KG.out.mono ?_
        rintro e W2 ⟨rfl, hJ2⟩
        obtain ⟨k', rfl, HJ2⟩ := HN.out _ _ (hJ2.below ((Below.refl _ _).alloc (Nat.le_refl _) (.cells #[.int .i64 0, .int .u64 0, .int .i64 0, .int .u64 0, .int .u64 0] 42)))
        clear hJ2
        go_wp2
        go_roundw
        all_goals first | exact ⟨k + 1, by omega, by go_num, HJ2⟩ | (simp [intOf]; omega)
    · obtain rfl : k = m := by omega
      go_wp2
      go_ret
      obtain ⟨hr, hms⟩ := HJ.out
      exact ⟨_, rfl, hr, hms⟩
set_option maxHeartbeats 1000000 in
theorem drun_nil (pv : Value) (vp : Value) (w : World) : Calls Try.prog 11 #[pv, .slice none 0 0, vp] w (Same (.slice none 0 0) w) := by
  go_enter Try.func11, Try.ntmps11
  go_wp2
  go_ret
  exact ⟨rfl, rfl⟩
theorem drun_empty (pv : Value) (al : Option Addr) (cl : Nat) (vp : Value) (w : World) : Calls Try.prog 11 #[pv, .slice al 0 cl, vp] w (Same (.slice none 0 0) w) := by
  go_enter Try.func11, Try.ntmps11
  go_wp2
  go_ret
  exact ⟨rfl, rfl⟩
end Go.Proofs.Ythldjdkjgiebaaa
