/-
  The walk of ArenaKeeps. By an AI agent.
-/
import Derived.Test.YtbokndgellfoaaaArenaAwake
set_option linter.unusedSimpArgs false
namespace Go.Proofs.Ytbokndgellfoaaa
open Go.RowKit Go.Maps
open Mm (Mem Blk)
theorem Ax.app {B : Nat} {w w1 : World} {p : Nat} {S : Mem} {F : Nat → Prop} (h : Ax B w p S F) {o : Obj} {v : Value} (hg : (w.alloc o).grownBy w1 v.ownBlock) (ha : ∀ k, v.ownBlock = some k → ¬ F k) : Ax B w1 p S F :=
  h.keep fun k hk => (hg.block k (by have := (h.foot hk).2; simp; omega) (fun e => ha k e.symm hk)).trans (Below.heap_alloc w o k (h.foot hk).2)
theorem Ax.apart {B : Nat} {w : World} {p : Nat} {S : Mem} {F : Nat → Prop} (h : Ax B w p S F) {o : Obj} {v v' : Value} (hat : v'.ownBlock = v.ownBlock ∨ v'.ownBlock = some (w.alloc o).heap.size) (ha : ∀ k, v.ownBlock = some k → ¬ F k) : ∀ k, v'.ownBlock = some k → ¬ F k := fun k hk e => by
  rcases hat with hat | hat
  · exact ha k (hat ▸ hk) e
  · rw [hk] at hat
    cases hat
    have := (h.foot e).2
    simp at this
    omega
theorem below_app {B : Nat} {w w1 : World} {o : Obj} {v : Value} {t : TypeId} {n sz : Nat} {xs : List Value} (hg : (w.alloc o).grownBy w1 v.ownBlock) (hr : w.ownsRow B t sz v n xs) (hB : B ≤ w.heap.size) : Below B w w1 :=
  ((Below.refl B w).alloc hB o).trans ⟨hg.os, hg.tape, hg.output, hg.size, fun k hk => hg.block k (by simp; omega) (fun e => by have := (hr.lt k e.symm).1; omega)⟩
/-- The numbers from 1 on. -/
def ix (i : Nat) : List Value := (List.range i).map fun (j : Nat) => Value.int .u64 ((j : Int) + 1)
theorem ix_len (i : Nat) : (ix i).length = i := by simp [ix]
theorem ix_succ (i : Nat) : ix (i + 1) = ix i ++ [.int .u64 ((i : Int) + 1)] := by simp [ix, List.range_succ]
/-- Blocks of so many cells, all 0, numbered from 1 on. -/
def bl (z : Nat → Nat) (i : Nat) : List Blk := (List.range i).map fun j => (j + 1, List.replicate (z j % 16 + 1) 0)
theorem bl_succ (z : Nat → Nat) (i : Nat) : bl z (i + 1) = bl z i ++ [(i + 1, List.replicate (z i % 16 + 1) 0)] := by simp [bl, List.range_succ]
theorem bl_used (z : Nat → Nat) : ∀ i, Mm.used (bl z i) ≤ 16 * i
  | 0 => by simp [bl, Mm.used]
  | i + 1 => by
    have := bl_used z i
    rw [bl_succ, Mm.used_append]
    simp [Mm.used]
    omega
theorem bl_get (z : Nat → Nat) : ∀ i k, k < i → Mm.get (bl z i) (k + 1) = some (List.replicate (z k % 16 + 1) 0)
  | i + 1, k, h => by
    rw [bl_succ, Mm.get_append]
    by_cases e : k = i
    · subst e
      rw [Mm.get_none_of (l := bl z k)]
      · simp [Mm.get]
      · intro b hb
        simp [bl] at hb
        obtain ⟨a, ha, rfl⟩ := hb
        simp
        omega
    · rw [bl_get z i k (by omega)]; rfl
abbrev st (z : Nat → Nat) (i : Nat) : Mem := ⟨10000, i, 0, bl z i⟩
theorem st_alloc (z : Nat → Nat) (i : Nat) : (st z i).alloc (z i % 16 + 1) = st z (i + 1) := by
  simp [Mem.alloc, st, bl_succ]
/-- What a cell has behind one store. -/
def rd (kk cc : Nat) (v : Int) (i j : Nat) : Int := if i = kk ∧ j = cc then v else 0
theorem put_rd (z : Nat → Nat) (k kk cc : Nat) (v : Int) (hk : kk < k) {i j : Nat} (hi : i < k) (hj : j < z i % 16 + 1) :
    ∃ ws, Mm.get (Mm.put (bl z k) (kk + 1) cc v) (i + 1) = some ws ∧ ws.length = z i % 16 + 1 ∧ ws[j]? = some (rd kk cc v i j) := by
  unfold rd
  by_cases e : i = kk
  · subst e
    refine ⟨_, Mm.get_put_same cc v (bl_get z k i hi), by simp, ?_⟩
    by_cases e2 : j = cc
    · subst e2; simp [hj]
    · rw [List.getElem?_set_ne (fun h => e2 h.symm)]
      simp [hj, e2]
  · refine ⟨_, (Mm.get_put_other _ cc v (by omega)).trans (bl_get z k i hi), by simp, ?_⟩
    simp [hj, e]
theorem own_cell {w : World} {B k n : Nat} {t : TypeId} {v : Value} {xs : List Value} {u : Value} (hr : w.ownsRow B t 1 v n xs) (hu : xs[k]? = some u) : ∃ g c, v = .slice (some ⟨g, 0, none⟩) n c ∧ w.cell? ⟨g, k, none⟩ = some u ∧ n ≤ c := by
  have hk := (List.getElem?_eq_some_iff.1 hu).1
  rcases hr.2 with ⟨rfl, h0⟩ | ⟨g, cap, cur, rfl, hb, hg, hc, hm, hs, ht⟩
  · have := hr.1; omega
  · refine ⟨g, cap, rfl, ?_, hc⟩
    rw [← ht] at hu
    rw [List.getElem?_take] at hu
    split at hu
    · simpa [World.cell?, hg] using hu
    · cases hu
theorem cell_of {w : World} {B i k g c : Nat} (hr : w.ownsRow B 27 1 (.slice (some ⟨g, 0, none⟩) k c) k (ix k)) (hi : i < k) : w.cell? ⟨g, i, none⟩ = some (.int .u64 ((i : Int) + 1)) := by
  obtain ⟨g', c', e, h, _⟩ := own_cell hr (k := i) (u := .int .u64 ((i : Int) + 1)) (by simp [ix, hi])
  cases e
  exact h
set_option maxRecDepth 100000 in
set_option maxHeartbeats 4000000 in
theorem keeps_any (sb so len cap : Nat) (z : Nat → Nat) (a0 a1 a2 : Nat) (v : Int) (w : World) (hl : 1 ≤ len) (hl2 : len ≤ 20) (hz : ∀ j, z j < 256) (h0 : a0 < 256) (h1 : a1 < 256) (h2 : a2 < 256) (hsb : sb < w.heap.size)
    (hc : ∀ j, j < len → w.cell? ⟨sb, so + j, none⟩ = some (.int .u8 (z j : Int))) :
    Calls Try.prog 4 #[.slice (some ⟨sb, so, none⟩) len cap, .agg #[.int .u8 (a0 : Int), .int .u8 (a1 : Int), .int .u8 (a2 : Int)], .int .u64 v] w (Gives (.bool true) w) := by
  have HC := Lib.hid hc; clear hc
  have HZ := Lib.hid hz; clear hz
  have KN : Hid (∀ w, Calls Try.prog 7 #[.int .i64 10000] w fun e w' => e = .returned (.pointer (some ⟨w.heap.size + 1, 0, none⟩)) ∧ ∃ F, Ax w.heap.size w' (w.heap.size + 1) (st z 0) F ∧ Below w.heap.size w w' ∧ w.heap.size + 2 = w'.heap.size) := Lib.hid fun w => new_ok 10000 (by omega) (by omega) w
  have KA : Hid (∀ i, i < 20 → ∀ B p F w, Ax B w p (st z i) F → B ≤ w.heap.size → Calls Try.prog 9 #[.pointer (some ⟨p, 0, none⟩), .int .i64 ((z i : Int) % 16 + 1)] w (Turns (.int .u64 ((i : Int) + 1)) B p (st z (i + 1)) F w)) := Lib.hid fun i hi B p F w h hB => by
    have hu := bl_used z i
    have := alloc_ok h hB (z i % 16 + 1) (by omega) (by show z i % 16 + 1 ≤ 10000 - Mm.used (bl z i); omega) (by show i ≤ _; omega)
    rw [st_alloc] at this
    rw [show ((z i % 16 + 1 : Nat) : Int) = (z i : Int) % 16 + 1 by omega] at this
    exact this
  obtain ⟨i0, hi, hz0, hz1, hz2⟩ := info_parts info_u64
  have Hz0 := Lib.hid hz0; clear hz0
  have Hz1 := Lib.hid hz1; clear hz1
  have Hz2 := Lib.hid hz2; clear hz2
  have Hi := Lib.hid hi; clear hi
  have hd0 : decide ((len : Int) == 0) = false := by simp; omega
  have hd0' : ((len : Int) == 0) = false := by simp; omega
  go_enter Try.func4, Try.ntmps4
  go_wp2_with fail
  with_reducible refine (KN.out _).mono ?_
  obtain ⟨W0, hW0⟩ : ∃ W0, w.alloc (.cells #[.int .u8 (a0 : Int), .int .u8 (a1 : Int), .int .u8 (a2 : Int)] 56) = W0 := ⟨_, rfl⟩
  have hB0 : Below w.heap.size w W0 := hW0 ▸ (Below.refl _ w).alloc (Nat.le_refl _) _
  have hs0 : W0.heap.size = w.heap.size + 1 := by rw [← hW0]; simp
  have hbox : ∀ w', Below W0.heap.size W0 w' → w'.cell? ⟨w.heap.size, 0, none⟩ = some (.int .u8 (a0 : Int)) ∧ w'.cell? ⟨w.heap.size, 1, none⟩ = some (.int .u8 (a1 : Int)) ∧ w'.cell? ⟨w.heap.size, 2, none⟩ = some (.int .u8 (a2 : Int)) := fun w' hb => by
    have e : w'.heap[w.heap.size]? = _ := (hb.block w.heap.size (by omega)).trans (hW0 ▸ heap_alloc_new w _)
    simp [World.cell?, e]
  have hsz : ∀ w', Below W0.heap.size W0 w' → ∀ j, j < len → w'.cell? ⟨sb, so + j, none⟩ = some (.int .u8 (z j : Int)) := fun w' hb j hj =>
    ((hB0.trans (hb.mono (by omega))).cell (p := ⟨sb, so + j, none⟩) hsb).trans (HC.out j hj)
  rw [hW0]
  clear hW0
  have HBX := Lib.hid hbox; clear hbox
  have HSZ := Lib.hid hsz; clear hsz
  have HB0 := Lib.hid hB0; clear hB0
  have Hs0 := Lib.hid hs0; clear hs0
  rintro e w1 ⟨rfl, F1, ha1, hb1, hs1⟩
  have r0 := World.ownsRow_lit (base := W0.heap.size) (e := 27) (size := 1) w1 #[] 0 (by omega) (by decide) (by decide)
  have hap0 : ∀ k, (Value.slice (some ⟨w1.heap.size, 0, none⟩) 0 0).ownBlock = some k → ¬ F1 k := fun k hk e => by
    cases hk; have := (ha1.foot e).2; simp at this
  have HR0 := Lib.hid r0; clear r0
  have HP0 := Lib.hid hap0; clear hap0
  have HA1 := Lib.hid (ha1.below ((Below.refl _ w1).alloc (Nat.le_refl _) (.cells #[] 27)) (Nat.le_refl _)); clear ha1
  have HB1 := Lib.hid (hb1.trans ((Below.refl _ w1).alloc (by omega) (.cells #[] 27))); clear hb1 hs1
  go_wp2_with fail
  go_loopw [8, 9] (fun u i wr => ∃ (k : Nat) (F : Nat → Prop), k ≤ len ∧ i = .int .i64 k ∧ wr.ownsRow W0.heap.size 27 1 u k (ix k) ∧ (∀ j, u.ownBlock = some j → ¬ F j) ∧ Ax W0.heap.size wr (W0.heap.size + 1) (st z k) F ∧ Below W0.heap.size W0 wr) (fun _ i _ => len - (intOf i).toNat)
  case atStart => exact ⟨0, F1, Nat.zero_le _, rfl, HR0.out, HP0.out, HA1.out, HB1.out⟩
  case round =>
    clear HR0 HP0 HA1 HB1
    obtain ⟨k, F, hk, rfl, hr, hap, ha, hb⟩ := hrel
    by_cases hlt : k < len
    · have hltZ : (k : Int) < (len : Int) := by omega
      have cz := HSZ.out _ hb k hlt
      have hzk := HZ.out k
      have HR := Lib.hid hr; clear hr
      have HP := Lib.hid hap; clear hap
      have HA := Lib.hid ha; clear ha
      have HB := Lib.hid hb; clear hb
      have K := Lib.hid (KA.out k (by omega) _ _ _ _ HA.out HB.out.size)
      go_wp2_with (first | (go_at_call 9; refine K.out.mono ?_; rintro e w2 ⟨rfl, F2, ha2, ht2⟩; obtain ⟨hr2, hp2⟩ := ht2.row HR.out HP.out; have hb2 := HB.out.trans (ht2.below (fun k hk => (HA.out.foot hk).1) HB.out.size); have HR2 := Lib.hid hr2; have HP2 := Lib.hid hp2; have HB2 := Lib.hid hb2; have HA2 := Lib.hid ha2; clear hr2 hp2 hb2 ha2 ht2) | (at_builtin; refine wpList_append_own_at _ rfl _ _ 33 rfl W0.heap.size 27 i0 (.int .u64 0) 1 8 Try.underlying33 Hi.out Hz0.out Hz1.out Hz2.out rfl (by decide) _ _ _ rfl (HR2.out.alloc _) ⟨w2.heap.size, 0, none⟩ 1 1 [.int .u64 ((k : Int) + 1)] rfl rfl (cell_one_new _ _ _) (by simp [Value.oneCell']) (by unfold maxLen; omega) (by omega) (by have := HB2.out.size; simp; omega) ?_; intro v' w3 hown' hgrow _ hat) | fail)
      go_roundw
      case rel => exact ⟨k + 1, F2, by omega, by go_num, by rw [ix_succ]; exact hown', HA2.out.apart hat HP2.out, HA2.out.app hgrow HP2.out, HB2.out.trans (below_app hgrow HR2.out HB2.out.size)⟩
      case measure => simp [intOf]; omega
    · obtain rfl : k = len := by omega
      clear hlt KA KN Hi Hz0 Hz1 Hz2
      obtain ⟨kk, hkk⟩ : ∃ kk, kk = a0 % k := ⟨_, rfl⟩
      have hkl : kk < k := by rw [hkk]; exact Nat.mod_lt _ (by omega)
      have ekk : (a0 : Int) % (k : Int) = (kk : Int) := by omega
      obtain ⟨oo, hoo⟩ : ∃ oo, oo = a2 % k := ⟨_, rfl⟩
      have hol : oo < k := by rw [hoo]; exact Nat.mod_lt _ (by omega)
      have eoo : (a2 : Int) % (k : Int) = (oo : Int) := by omega
      obtain ⟨n, hn⟩ : ∃ n, n = z kk % 16 + 1 := ⟨_, rfl⟩
      have en : (z kk : Int) % 16 + 1 = (n : Int) := by omega
      obtain ⟨cc, hcc⟩ : ∃ cc, cc = a1 % n := ⟨_, rfl⟩
      have hcl : cc < n := by rw [hcc]; exact Nat.mod_lt _ (by omega)
      have ecc : (a1 : Int) % (n : Int) = (cc : Int) := by omega
      have hkZ : (kk : Int) < (k : Int) := by omega
      have hoZ : (oo : Int) < (k : Int) := by omega
      obtain ⟨g, c, rfl, ck, hkc⟩ := own_cell hr (k := kk) (u := .int .u64 ((kk : Int) + 1)) (by simp [ix, hkl])
      obtain ⟨x0, x1, x2⟩ := HBX.out _ hb
      have hn16 : n ≤ 16 := by omega
      have cz := HSZ.out _ hb kk hkl
      have hzk := HZ.out kk
      have hgk := bl_get z k kk hkl
      rw [← hn] at hgk
      have KS := Lib.hid (store_ok ha (b := kk + 1) (by omega) hgk cc (by simpa using hcl) v)
      rw [show ((kk + 1 : Nat) : Int) = (kk : Int) + 1 by omega] at KS
      have HR := Lib.hid hr; clear hr
      have HP := Lib.hid hap; clear hap
      have HA := Lib.hid ha; clear ha
      have HB := Lib.hid hb; clear hb
      have Hn := Lib.hid hn; clear hn
      have Hgk := Lib.hid hgk; clear hgk
      clear hkk hoo hcc
      have n0 : (n : Int) ≠ 0 := by omega
      have k0 : (k : Int) ≠ 0 := by omega
      go_wp2_with fail
      with_reducible refine KS.out.mono ?_
      rintro e w2 ⟨rfl, F2, ha2, ht2⟩
      obtain ⟨hr2, hp2⟩ := ht2.row HR.out HP.out
      have hb2 := HB.out.trans (ht2.below (fun k hk => (HA.out.foot hk).1) HB.out.size)
      obtain ⟨x0, x1, x2⟩ := HBX.out _ hb2
      have hrow : ∀ i, i < k → w2.cell? ⟨g, i, none⟩ = some (.int .u64 ((i : Int) + 1)) := fun i hi => by
        obtain ⟨g', c', e, h, _⟩ := own_cell hr2 (k := i) (u := .int .u64 ((i : Int) + 1)) (by simp [ix, hi])
        cases e
        exact h
      have hsz2 := HSZ.out _ hb2
      have KL : Hid (∀ i j, i < k → j < z i % 16 + 1 → Calls Try.prog 23 #[.pointer (some ⟨W0.heap.size + 1, 0, none⟩), .int .u64 ((i : Int) + 1), .int .i64 (j : Int)] w2 (Same (.tuple #[.int .u64 (rd kk cc v i j), .int .i64 0]) w2)) := Lib.hid fun i j hi hj => by
        obtain ⟨ws, h1, h2, h3⟩ := put_rd z k kk cc v hkl hi hj
        have := load_ok ha2 (b := i + 1) (by omega) h1 j h3
        rw [show ((i + 1 : Nat) : Int) = (i : Int) + 1 by omega] at this
        exact this
      have HR2 := Lib.hid hr2; clear hr2
      have HP2 := Lib.hid hp2; clear hp2
      have HA2 := Lib.hid ha2; clear ha2
      have HB2 := Lib.hid hb2; clear hb2
      have HRow := Lib.hid hrow; clear hrow
      have HSz2 := Lib.hid hsz2; clear hsz2
      clear ht2 KS HR HP HA HB ck cz
      go_wp2_with fail
      go_loop [14] (fun i => ∃ q : Nat, q ≤ k ∧ i = .int .i64 q) (fun i => k - (intOf i).toNat)
      case atStart => exact ⟨0, Nat.zero_le _, rfl⟩
      case round =>
        obtain ⟨q, hq, rfl⟩ := hrel
        by_cases hqk : q < k
        · have hqZ : (q : Int) < (k : Int) := by omega
          have cz := HSz2.out q hqk
          have cr := HRow.out q hqk
          have hzq := HZ.out q
          obtain ⟨m, hm⟩ : ∃ m, m = z q % 16 + 1 := ⟨_, rfl⟩
          have em : (z q : Int) % 16 + 1 = (m : Int) := by omega
          have KQ := Lib.hid fun j (hj : j < m) => KL.out q j hqk (by omega)
          have hm16 : m ≤ 16 := by omega
          clear hm
          go_wp2_with fail
          go_loop [15] (fun j => ∃ t : Nat, t ≤ m ∧ j = .int .i64 t) (fun j => m - (intOf j).toNat)
          case atStart => exact ⟨0, Nat.zero_le _, rfl⟩
          case round =>
            obtain ⟨t, ht, rfl⟩ := hrel
            by_cases htm : t < m
            · have htZ : (t : Int) < (m : Int) := by omega
              have K := Lib.hid (KQ.out t htm)
              unfold rd at K
              by_cases e1 : q = kk
              · by_cases e2 : t = cc
                · rw [if_pos ⟨e1, e2⟩] at K
                  have b1 : ((q : Int) == (kk : Int)) = true := by simp; omega
                  have b1' : ((q : Int) != (kk : Int)) = false := by simp; omega
                  have b2 : ((t : Int) == (cc : Int)) = true := by simp; omega
                  have b2' : ((t : Int) != (cc : Int)) = false := by simp; omega
                  clear e1 e2
                  go_wp2_with (go_at_call 23; refine K.out.mono ?_; rintro e w' ⟨rfl, rfl⟩)
                  go_round
                  case rel => exact ⟨t + 1, by omega, by go_num⟩
                  case measure => simp [intOf]; omega
                · rw [if_neg (fun h => e2 h.2)] at K
                  have b1 : ((q : Int) == (kk : Int)) = true := by simp; omega
                  have b1' : ((q : Int) != (kk : Int)) = false := by simp; omega
                  have b2 : ((t : Int) == (cc : Int)) = false := by simp; omega
                  have b2' : ((t : Int) != (cc : Int)) = true := by simp; omega
                  clear e1 e2
                  go_wp2_with (go_at_call 23; refine K.out.mono ?_; rintro e w' ⟨rfl, rfl⟩)
                  go_round
                  case rel => exact ⟨t + 1, by omega, by go_num⟩
                  case measure => simp [intOf]; omega
              · rw [if_neg (fun h => e1 h.1)] at K
                have b1 : ((q : Int) == (kk : Int)) = false := by simp; omega
                have b1' : ((q : Int) != (kk : Int)) = true := by simp; omega
                clear e1
                go_wp2_with (go_at_call 23; refine K.out.mono ?_; rintro e w' ⟨rfl, rfl⟩)
                go_round
                case rel => exact ⟨t + 1, by omega, by go_num⟩
                case measure => simp [intOf]; omega
            · obtain rfl : t = m := by omega
              go_wp2_with fail
              go_round
              case rel => exact ⟨q + 1, by omega, by go_num⟩
              case measure => simp [intOf]; omega
        · obtain rfl : q = k := by omega
          clear hqk HSz2 HZ HSZ KL x0 x1 x2
          have co2 := cell_of HR2.out hol
          have ck2 := cell_of HR2.out hkl
          obtain ⟨ws, g1, -, -⟩ := put_rd z q kk cc v hkl hol (j := 0) (by omega)
          obtain ⟨us, g5, -, g5c⟩ := put_rd z q kk cc v hkl hkl (j := cc) (by rw [← Hn.out]; exact hcl)
          have hus := bl_used z q
          rw [show rd kk cc v kk cc = v by simp [rd]] at g5c
          obtain ⟨S1, eS1⟩ : ∃ S1, S1 = (st z q).put (kk + 1) cc v := ⟨_, rfl⟩
          obtain ⟨S2, eS2⟩ : ∃ S2, S2 = S1.free (oo + 1) := ⟨_, rfl⟩
          obtain ⟨S3, eS3⟩ : ∃ S3, S3 = S2.fault := ⟨_, rfl⟩
          obtain ⟨S4, eS4⟩ : ∃ S4, S4 = S3.alloc 1 := ⟨_, rfl⟩
          obtain ⟨S5, eS5⟩ : ∃ S5, S5 = S4.fault := ⟨_, rfl⟩
          have eo : ((oo + 1 : Nat) : Int) = (oo : Int) + 1 := by omega
          have ek : ((kk + 1 : Nat) : Int) = (kk : Int) + 1 := by omega
          have n2 : Mm.get S2.L (oo + 1) = none := by rw [eS2]; exact (Mm.get_del _ _ _).trans (if_pos rfl)
          have n4 : Mm.get S4.L (oo + 1) = none := by
            rw [eS4, eS3]
            show Mm.get (S2.L ++ [(S2.last + 1, [0])]) (oo + 1) = none
            rw [Mm.get_append, n2, eS2, eS1]
            have : ¬ q = oo := by omega
            simp [Mm.get, Mem.put, Mem.free, st, this]
          have HA2' := HA2; rw [← eS1] at HA2'
          have T1 : Hid (∀ F w, Ax W0.heap.size w (W0.heap.size + 1) S1 F → W0.heap.size ≤ w.heap.size → Calls Try.prog 10 #[.pointer (some ⟨W0.heap.size + 1, 0, none⟩), .int .u64 ((oo : Int) + 1)] w (Turns (.int .i64 0) W0.heap.size (W0.heap.size + 1) S2 F w)) := Lib.hid fun F w h hB => by
            have := free_ok h (b := oo + 1) (by omega) (by rw [eS1]; exact g1)
            rw [eo, ← eS2] at this; exact this
          have T2 : Hid (∀ F w, Ax W0.heap.size w (W0.heap.size + 1) S2 F → W0.heap.size ≤ w.heap.size → Calls Try.prog 10 #[.pointer (some ⟨W0.heap.size + 1, 0, none⟩), .int .u64 ((oo : Int) + 1)] w (Turns (.int .i64 13) W0.heap.size (W0.heap.size + 1) S3 F w)) := Lib.hid fun F w h hB => by
            have := free_bad h (b := oo + 1) (by omega) n2 (by rw [eS2, eS1]; exact Nat.zero_le _)
            rw [eo, ← eS3] at this; exact this
          have T3 : Hid (∀ F w, Ax W0.heap.size w (W0.heap.size + 1) S3 F → W0.heap.size ≤ w.heap.size → Calls Try.prog 9 #[.pointer (some ⟨W0.heap.size + 1, 0, none⟩), .int .i64 1] w (Turns (.int .u64 ((q : Int) + 1)) W0.heap.size (W0.heap.size + 1) S4 F w)) := Lib.hid fun F w h hB => by
            have hfit : 1 ≤ S3.room - Mm.used S3.L := by
              have hu := Mm.used_del (HA2'.out.good.up) (show Mm.get S1.L (oo + 1) = some ws by rw [eS1]; exact g1)
              have e1 : Mm.used S1.L = Mm.used (bl z q) := by rw [eS1]; exact Mm.used_put _ _ _ _
              have e2 : Mm.used S3.L = Mm.used (Mm.del S1.L (oo + 1)) := by rw [eS3, eS2]; rfl
              have e3 : S3.room = 10000 := by rw [eS3, eS2, eS1]; rfl
              omega
            have := alloc_ok h hB 1 (by omega) hfit (by rw [eS3, eS2, eS1]; show q ≤ _; omega)
            rw [← eS4, show S3.last = q by rw [eS3, eS2, eS1]; rfl] at this; exact this
          have T4 : Hid (∀ F w, Ax W0.heap.size w (W0.heap.size + 1) S4 F → W0.heap.size ≤ w.heap.size → Calls Try.prog 23 #[.pointer (some ⟨W0.heap.size + 1, 0, none⟩), .int .u64 ((oo : Int) + 1), .int .i64 0] w (Turns (.tuple #[.int .u64 0, .int .i64 13]) W0.heap.size (W0.heap.size + 1) S5 F w)) := Lib.hid fun F w h hB => by
            have hw : Mm.wrong S4 (oo + 1) 0 = 13 := by simp [Mm.wrong, n4]
            have := load_bad h (b := oo + 1) (by omega) 0 (by rw [hw]; decide) (by rw [eS4, eS3, eS2, eS1]; show 0 + 1 ≤ _; omega)
            rw [eo, hw, ← eS5] at this; exact this
          have n5 : Mm.get S5.L (oo + 1) = none := by rw [eS5]; exact n4
          have f5 : S5.faults ≤ 10 := by rw [eS5, eS4, eS3, eS2, eS1]; show 0 + 1 + 1 ≤ _; omega
          have T6 : Hid (∀ S F w, Mm.get S.L (oo + 1) = none → S.faults ≤ 11 → Ax W0.heap.size w (W0.heap.size + 1) S F → Calls Try.prog 16 #[.pointer (some ⟨W0.heap.size + 1, 0, none⟩), .int .u64 ((oo : Int) + 1), .int .i64 0, .int .u64 1] w (Turns (.int .i64 13) W0.heap.size (W0.heap.size + 1) S.fault F w)) := Lib.hid fun S F w hg hf h => by
            have hw : Mm.wrong S (oo + 1) 0 = 13 := by simp [Mm.wrong, hg]
            have := store_bad h (b := oo + 1) (by omega) 0 (by rw [hw]; decide) (by omega) 1
            rw [eo, hw] at this; exact this
          have hno : ((q : Int) + 1 == (oo : Int) + 1) = false := by simp; omega
          have HN5 := Lib.hid n5; clear n5 n4 n2
          have HF5 := Lib.hid f5; clear f5
          by_cases eko : kk = oo
          · have T5 : Hid (∀ F w, Ax W0.heap.size w (W0.heap.size + 1) S5 F → W0.heap.size ≤ w.heap.size → Calls Try.prog 23 #[.pointer (some ⟨W0.heap.size + 1, 0, none⟩), .int .u64 ((kk : Int) + 1), .int .i64 (cc : Int)] w (Turns (.tuple #[.int .u64 0, .int .i64 13]) W0.heap.size (W0.heap.size + 1) S5.fault F w)) := Lib.hid fun F w h hB => by
              have hw : Mm.wrong S5 (kk + 1) cc = 13 := by rw [eko]; simp [Mm.wrong, HN5.out]
              have := load_bad h (b := kk + 1) (by omega) cc (by rw [hw]; decide) (by have := HF5.out; omega)
              rw [ek, hw] at this; exact this
            have T7 := Lib.hid fun F w h => T6.out S5.fault F w HN5.out (by have := HF5.out; show S5.faults + 1 ≤ 11; omega) h
            have b1 : ((kk : Int) == (oo : Int)) = true := by simp; omega
            clear eS1 eS2 eS3 eS4 eS5 eo ek g1 g5 g5c hus HA2 Hgk Hn HRow eko
            go_wp2_with fail
            with_reducible refine (T1.out _ _ HA2'.out HB2.out.size).mono ?_
            rintro e w3 ⟨rfl, F3, ha, ht⟩
            obtain ⟨hr, hp⟩ := ht.row HR2.out HP2.out
            have hb := HB2.out.trans (ht.below (fun k hk => (HA2'.out.foot hk).1) HB2.out.size)
            have co3 := cell_of hr hol
            have ck3 := cell_of hr hkl
            have HR3 := Lib.hid hr
            have HP3 := Lib.hid hp
            have HB3 := Lib.hid hb
            have HA3 := Lib.hid ha
            clear hr hp hb ha ht
            go_wp2_with fail
            with_reducible refine (T2.out _ _ HA3.out HB3.out.size).mono ?_
            rintro e w4 ⟨rfl, F4, ha, ht⟩
            obtain ⟨hr, hp⟩ := ht.row HR3.out HP3.out
            have hb := HB3.out.trans (ht.below (fun k hk => (HA3.out.foot hk).1) HB3.out.size)
            have co4 := cell_of hr hol
            have ck4 := cell_of hr hkl
            have HR4 := Lib.hid hr
            have HP4 := Lib.hid hp
            have HB4 := Lib.hid hb
            have HA4 := Lib.hid ha
            clear hr hp hb ha ht
            go_wp2_with fail
            with_reducible refine (T3.out _ _ HA4.out HB4.out.size).mono ?_
            rintro e w5 ⟨rfl, F5, ha, ht⟩
            obtain ⟨hr, hp⟩ := ht.row HR4.out HP4.out
            have hb := HB4.out.trans (ht.below (fun k hk => (HA4.out.foot hk).1) HB4.out.size)
            have co5 := cell_of hr hol
            have ck5 := cell_of hr hkl
            have HR5 := Lib.hid hr
            have HP5 := Lib.hid hp
            have HB5 := Lib.hid hb
            have HA5 := Lib.hid ha
            clear hr hp hb ha ht
            go_wp2_with fail
            with_reducible refine (T4.out _ _ HA5.out HB5.out.size).mono ?_
            rintro e w6 ⟨rfl, F6, ha, ht⟩
            obtain ⟨hr, hp⟩ := ht.row HR5.out HP5.out
            have hb := HB5.out.trans (ht.below (fun k hk => (HA5.out.foot hk).1) HB5.out.size)
            have co6 := cell_of hr hol
            have ck6 := cell_of hr hkl
            have HR6 := Lib.hid hr
            have HP6 := Lib.hid hp
            have HB6 := Lib.hid hb
            have HA6 := Lib.hid ha
            clear hr hp hb ha ht
            go_wp2_with fail
            with_reducible refine (T5.out _ _ HA6.out HB6.out.size).mono ?_
            rintro e w7 ⟨rfl, F7, ha, ht⟩
            obtain ⟨hr, hp⟩ := ht.row HR6.out HP6.out
            have hb := HB6.out.trans (ht.below (fun k hk => (HA6.out.foot hk).1) HB6.out.size)
            have co7 := cell_of hr hol
            have ck7 := cell_of hr hkl
            have HR7 := Lib.hid hr
            have HP7 := Lib.hid hp
            have HB7 := Lib.hid hb
            have HA7 := Lib.hid ha
            clear hr hp hb ha ht
            go_wp2_with fail
            with_reducible refine (T7.out _ _ HA7.out).mono ?_
            rintro e w8 ⟨rfl, F8, ha, ht⟩
            have hb := HB7.out.trans (ht.below (fun k hk => (HA7.out.foot hk).1) HB7.out.size)
            have HB8 := Lib.hid hb
            clear ha ht hb
            go_wp2_with fail
            with_reducible refine (awake_any _).mono ?_
            rintro e w9 ⟨rfl, hb⟩
            go_wp2_with fail
            go_ret
            exact ⟨rfl, (HB0.out.trans (HB8.out.mono (by have := Hs0.out; omega))).trans (hb.mono (by have := Hs0.out; have := HB8.out.size; omega))⟩
          · have g7 : Mm.get S5.L (kk + 1) = some us := by
              rw [eS5, eS4, eS3, eS2, eS1]
              show Mm.get (Mm.del (Mm.put (bl z q) (kk + 1) cc v) (oo + 1) ++ _) (kk + 1) = some us
              rw [Mm.get_append, Mm.get_del, if_neg (by omega), g5]
              rfl
            have T5 : Hid (∀ F w, Ax W0.heap.size w (W0.heap.size + 1) S5 F → W0.heap.size ≤ w.heap.size → Calls Try.prog 23 #[.pointer (some ⟨W0.heap.size + 1, 0, none⟩), .int .u64 ((kk : Int) + 1), .int .i64 (cc : Int)] w (Same (.tuple #[.int .u64 v, .int .i64 0]) w)) := Lib.hid fun F w h hB => by
              have := load_ok h (b := kk + 1) (by omega) g7 cc g5c
              rw [ek] at this; exact this
            have b1 : ((kk : Int) == (oo : Int)) = false := by simp; omega
            have b1' : ((kk : Int) != (oo : Int)) = true := by simp; omega
            clear eS1 eS2 eS3 eS4 eS5 eo ek g1 g5 g5c g7 hus HA2 Hgk Hn HRow eko
            go_wp2_with fail
            with_reducible refine (T1.out _ _ HA2'.out HB2.out.size).mono ?_
            rintro e w3 ⟨rfl, F3, ha, ht⟩
            obtain ⟨hr, hp⟩ := ht.row HR2.out HP2.out
            have hb := HB2.out.trans (ht.below (fun k hk => (HA2'.out.foot hk).1) HB2.out.size)
            have co3 := cell_of hr hol
            have ck3 := cell_of hr hkl
            have HR3 := Lib.hid hr
            have HP3 := Lib.hid hp
            have HB3 := Lib.hid hb
            have HA3 := Lib.hid ha
            clear hr hp hb ha ht
            go_wp2_with fail
            with_reducible refine (T2.out _ _ HA3.out HB3.out.size).mono ?_
            rintro e w4 ⟨rfl, F4, ha, ht⟩
            obtain ⟨hr, hp⟩ := ht.row HR3.out HP3.out
            have hb := HB3.out.trans (ht.below (fun k hk => (HA3.out.foot hk).1) HB3.out.size)
            have co4 := cell_of hr hol
            have ck4 := cell_of hr hkl
            have HR4 := Lib.hid hr
            have HP4 := Lib.hid hp
            have HB4 := Lib.hid hb
            have HA4 := Lib.hid ha
            clear hr hp hb ha ht
            go_wp2_with fail
            with_reducible refine (T3.out _ _ HA4.out HB4.out.size).mono ?_
            rintro e w5 ⟨rfl, F5, ha, ht⟩
            obtain ⟨hr, hp⟩ := ht.row HR4.out HP4.out
            have hb := HB4.out.trans (ht.below (fun k hk => (HA4.out.foot hk).1) HB4.out.size)
            have co5 := cell_of hr hol
            have ck5 := cell_of hr hkl
            have HR5 := Lib.hid hr
            have HP5 := Lib.hid hp
            have HB5 := Lib.hid hb
            have HA5 := Lib.hid ha
            clear hr hp hb ha ht
            go_wp2_with fail
            with_reducible refine (T4.out _ _ HA5.out HB5.out.size).mono ?_
            rintro e w6 ⟨rfl, F6, ha, ht⟩
            obtain ⟨hr, hp⟩ := ht.row HR5.out HP5.out
            have hb := HB5.out.trans (ht.below (fun k hk => (HA5.out.foot hk).1) HB5.out.size)
            have co6 := cell_of hr hol
            have ck6 := cell_of hr hkl
            have HR6 := Lib.hid hr
            have HP6 := Lib.hid hp
            have HB6 := Lib.hid hb
            have HA6 := Lib.hid ha
            clear hr hp hb ha ht
            go_wp2_with fail
            with_reducible refine (T5.out _ _ HA6.out HB6.out.size).mono ?_
            rintro e w7 ⟨rfl, rfl⟩
            go_wp2_with fail
            with_reducible refine (T6.out _ _ _ HN5.out (by have := HF5.out; omega) HA6.out).mono ?_
            rintro e w8 ⟨rfl, F8, ha, ht⟩
            have hb := HB6.out.trans (ht.below (fun k hk => (HA6.out.foot hk).1) HB6.out.size)
            have HB8 := Lib.hid hb
            clear ha ht hb
            go_wp2_with fail
            with_reducible refine (awake_any _).mono ?_
            rintro e w9 ⟨rfl, hb⟩
            go_wp2_with fail
            go_ret
            exact ⟨rfl, (HB0.out.trans (HB8.out.mono (by have := Hs0.out; omega))).trans (hb.mono (by have := Hs0.out; have := HB8.out.size; omega))⟩
end Go.Proofs.Ytbokndgellfoaaa
