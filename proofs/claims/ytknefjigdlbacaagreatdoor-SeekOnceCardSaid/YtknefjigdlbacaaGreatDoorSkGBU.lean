/-
  Several texts in one: A slice of texts; SeekFinds, where nothing is laid; The walks of short, and of SeekOnce where nothing is laid; SeekOnce's arena while its seeks are made, and behind; a row's cells; The two rows that SeekOnce lays its seeks into. By an AI agent.
-/
import Derived.Test.YtknefjigdlbacaaGreatDoorSkGBT
import Derived.Test.YtknefjigdlbacaaGreatDoorSkGBR
import Derived.Test.YtknefjigdlbacaaGreatDoorSkGBS
set_option linter.unusedSimpArgs false
set_option linter.unusedVariables false
namespace Go.Proofs.YtknefjigdlbacaaGreatDoor
open Go.RowKit Go.Maps
open Mm (Mem Blk)
/-- A slice of texts that came in. -/
def Stx (w : World) (B : Nat) (a : Option Addr) (ks : List ByteArray) : Prop := ks = [] ∨ ∃ b off, a = some ⟨b, off, none⟩ ∧ b < B ∧ ∀ j, j < ks.length → w.cell? ⟨b, off + j, none⟩ = some (.string (ks.getD j ⟨#[]⟩))
theorem Stx.below {w w' : World} {B : Nat} {a : Option Addr} {ks : List ByteArray} (h : Stx w B a ks) (hb : Below B w w') : Stx w' B a ks := by
  rcases h with h | ⟨b, off, e, hlt, hc⟩
  · exact .inl h
  · refine .inr ⟨b, off, e, hlt, fun j hj => ?_⟩
    have := hc j hj
    unfold World.cell? at this ⊢
    rw [hb.block b hlt]
    exact this
theorem Stx.at {w : World} {B : Nat} {a : Option Addr} {ks : List ByteArray} (h : Stx w B a ks) {j : Nat} (hj : j < ks.length) : ∃ b off, a = some ⟨b, off, none⟩ ∧ ∀ w', Below B w w' → w'.cell? ⟨b, off + j, none⟩ = some (.string (ks.getD j ⟨#[]⟩)) := by
  rcases h with h | ⟨b, off, e, hlt, hc⟩
  · subst h; exact absurd hj (Nat.not_lt_zero _)
  · refine ⟨b, off, e, fun w' hb => ?_⟩
    have := hc j hj
    unfold World.cell? at this ⊢
    rw [hb.block b hlt]
    exact this
set_option maxRecDepth 100000 in
set_option maxHeartbeats 4000000 in
theorem sfinds_out (d : Nat) (t nn kp : Int) (sd : Nat) (len cap : Nat) (A0 : Option Addr) (other : ByteArray) (w : World) (hbd : Bd w) (hl : len ≤ maxLen) (hk : other.size ≤ maxLen) (h : Dk.right (d : Int) t nn kp = false ∨ 14 < len ∨ 16 < other.size) :
    Calls Tryz.prog 5 #[.agg #[.int .u64 (d : Int), .int .i64 t, .int .i64 nn, .int .i64 kp, .int .u64 (sd : Int)], .slice A0 len cap, .string other] w (Gives (.bool true) w) := by
  unfold maxLen at hl hk
  have HB := Lib.hid (sboxed_below w (d : Int) t nn kp (sd : Int))
  obtain ⟨c0, c1, c2, c3, c4⟩ := sboxed_cells (w := w) (d := (d : Int)) (t := t) (n := nn) (k := kp) (s := (sd : Int)) (Below.refl _ _)
  have KR := dright_any (d : Int) t nn kp (sd : Int) _ (hbd.below HB.out)
  have KA := Lib.hid (fun (V : World) (hb : Below w.heap.size w V) => awake_any V (hbd.below hb))
  obtain ⟨r, hr⟩ : ∃ r, r = Dk.right (d : Int) t nn kp := ⟨_, rfl⟩
  rw [← hr] at h KR
  have KR := Lib.hid KR
  clear hr hbd
  go_enter Tryz.func5, Tryz.ntmps5
  go_wp2_with fail
  with_reducible refine KR.out.mono ?_
  rintro e w1 ⟨rfl, hb1⟩
  have HB1 := Lib.hid (HB.out.trans (hb1.mono HB.out.size))
  have KA1 := Lib.hid (KA.out w1 HB1.out)
  clear hb1 c0 c1 c2 c3 c4 KR KA
  cases r with
  | false =>
    go_wp2_with fail
    with_reducible refine KA1.out.mono ?_
    rintro e w2 ⟨rfl, hb2⟩
    have HB2 := Lib.hid (HB1.out.trans (hb2.mono HB1.out.size))
    clear hb2
    go_wp2
    go_ret
    exact ⟨rfl, HB2.out⟩
  | true =>
    by_cases h1 : 14 < len
    · have e1 : (14 : Int) < (len : Int) := by omega
      go_wp2_with fail
      with_reducible refine KA1.out.mono ?_
      rintro e w2 ⟨rfl, hb2⟩
      have HB2 := Lib.hid (HB1.out.trans (hb2.mono HB1.out.size))
      clear hb2
      go_wp2
      go_ret
      exact ⟨rfl, HB2.out⟩
    · have h2 : 16 < other.size := by
        rcases h with h | h | h
        · cases h
        · exact absurd h h1
        · exact h
      have e1 : ¬ (14 : Int) < (len : Int) := by omega
      have e2 : (16 : Int) < (other.size : Int) := by omega
      go_wp2_with fail
      with_reducible refine KA1.out.mono ?_
      rintro e w2 ⟨rfl, hb2⟩
      have HB2 := Lib.hid (HB1.out.trans (hb2.mono HB1.out.size))
      clear hb2
      go_wp2
      go_ret
      exact ⟨rfl, HB2.out⟩
end Go.Proofs.YtknefjigdlbacaaGreatDoor
set_option linter.unusedSimpArgs false
set_option linter.unusedVariables false
namespace Go.Proofs.YtknefjigdlbacaaGreatDoor
open Go.RowKit Go.Maps
open Mm (Mem Blk)
set_option maxRecDepth 100000 in
set_option maxHeartbeats 2000000 in
theorem short_any {B : Nat} (keys : List ByteArray) (A0 : Option Addr) (cap : Nat) (w : World) (hs : Stx w B A0 keys) (hl : keys.length ≤ maxLen) (hsz : ∀ r, r < keys.length → (keys.getD r ⟨#[]⟩).size ≤ maxLen) (J : Nat) (hJ : J ≤ keys.length) (hJ1 : ∀ r, r < J → (keys.getD r ⟨#[]⟩).size ≤ 16) (hJ2 : J < keys.length → 16 < (keys.getD J ⟨#[]⟩).size) (b : Bool) (hb : b = decide (J = keys.length ∧ 1 ≤ keys.length ∧ keys.length ≤ 6)) :
    Calls Tryz.prog 13 #[.slice A0 keys.length cap] w (fun e w' => e = .returned (.bool b) ∧ w' = w) := by
  unfold maxLen at hl
  have HJ := Lib.hid (show (∀ r, r < J → (keys.getD r ⟨#[]⟩).size ≤ 16) ∧ (J < keys.length → 16 < (keys.getD J ⟨#[]⟩).size) ∧ ∀ r, r < keys.length → (keys.getD r ⟨#[]⟩).size ≤ 9223372036854775807 from ⟨hJ1, hJ2, fun r hr => by have := hsz r hr; unfold maxLen at this; omega⟩)
  have HS := Lib.hid hs
  have HBB := Lib.hid hb
  obtain ⟨L, hLe⟩ : ∃ L, L = keys.length := ⟨_, rfl⟩
  have HLE := Lib.hid hLe
  rw [← hLe] at hJ hl ⊢
  clear hJ1 hJ2 hsz hs hb hLe
  go_enter Tryz.func13, Tryz.ntmps13
  go_wp2
  go_loopw [3] (fun i wr => ∃ k : Nat, k ≤ J ∧ i = .int .i64 k ∧ w = wr) (fun i _ => J - (intOf i).toNat)
  case atStart => exact ⟨0, by omega, rfl, rfl⟩
  case round =>
    obtain ⟨k, hk, rfl, rfl⟩ := hrel
    by_cases hkL : k < L
    · have hkK : k < keys.length := by rw [← HLE.out]; exact hkL
      have hltZ : (k : Int) < (L : Int) := by omega
      obtain ⟨b0, off, rfl, kca⟩ := HS.out.at hkK
      have kc := kca w (Below.refl _ _)
      have h63 := HJ.out.2.2 k hkK
      by_cases hkJ : k < J
      · have h16 := HJ.out.1 k hkJ
        obtain ⟨key, hkey⟩ : ∃ key, key = keys.getD k ⟨#[]⟩ := ⟨_, rfl⟩
        rw [← hkey] at kc h16 h63
        clear hkey kca
        have h16Z : ¬ (16 : Int) < (key.size : Int) := by omega
        go_wp2
        go_roundw
        all_goals first | exact ⟨k + 1, by omega, by go_num, trivial⟩ | (simp [intOf]; omega)
      · obtain rfl : k = J := by omega
        have h16 := HJ.out.2.1 hkK
        obtain ⟨key, hkey⟩ : ∃ key, key = keys.getD k ⟨#[]⟩ := ⟨_, rfl⟩
        rw [← hkey] at kc h16 h63
        clear hkey kca
        have h16Z : (16 : Int) < (key.size : Int) := by omega
        go_wp2
        go_ret
        refine ⟨?_, rfl⟩
        rw [HBB.out, ← HLE.out, decide_eq_false (by omega)]
        rfl
    · obtain rfl : k = L := by omega
      obtain rfl : k = J := by omega
      have hltZ : ¬ (k : Int) < (k : Int) := by omega
      by_cases h1 : 1 ≤ k
      · have h1Z : (1 : Int) ≤ (k : Int) := by omega
        by_cases h6 : k ≤ 6
        · have h6Z : (k : Int) ≤ 6 := by omega
          go_wp2
          go_ret
          refine ⟨?_, rfl⟩
          rw [HBB.out, ← HLE.out, decide_eq_true (by omega)]
          rfl
        · have h6Z : ¬ (k : Int) ≤ 6 := by omega
          go_wp2
          go_ret
          refine ⟨?_, rfl⟩
          rw [HBB.out, ← HLE.out, decide_eq_false (by omega)]
          rfl
      · have h1Z : ¬ (1 : Int) ≤ (k : Int) := by omega
        go_wp2
        go_ret
        refine ⟨?_, rfl⟩
        rw [HBB.out, ← HLE.out, decide_eq_false (by omega)]
        rfl
set_option maxRecDepth 100000 in
set_option maxHeartbeats 4000000 in
theorem sonce_out (sd : Int) (keys : List ByteArray) (A0 : Option Addr) (cap : Nat) (A1 : Option Addr) (np cp : Nat) (w : World) (hbd : Bd w) (hs : Stx w w.heap.size A0 keys) (hl : keys.length ≤ maxLen) (hnp : np ≤ maxLen) (hsz : ∀ r, r < keys.length → (keys.getD r ⟨#[]⟩).size ≤ maxLen) (J : Nat) (hJ : J ≤ keys.length) (hJ1 : ∀ r, r < J → (keys.getD r ⟨#[]⟩).size ≤ 16) (hJ2 : J < keys.length → 16 < (keys.getD J ⟨#[]⟩).size) (h : ¬ (J = keys.length ∧ 1 ≤ keys.length ∧ keys.length ≤ 6) ∨ 300 < np) :
    Calls Tryz.prog 4 #[.int .u64 sd, .slice A0 keys.length cap, .slice A1 np cp] w (Gives (.bool true) w) := by
  unfold maxLen at hnp
  obtain ⟨b, hb⟩ : ∃ b, b = decide (J = keys.length ∧ 1 ≤ keys.length ∧ keys.length ≤ 6) := ⟨_, rfl⟩
  have KS := Lib.hid (short_any keys A0 cap w hs hl hsz J hJ hJ1 hJ2 b hb)
  have KA := Lib.hid (awake_any w hbd)
  have h' : b = false ∨ 300 < np := h.imp (fun h => by rw [hb]; exact decide_eq_false h) id
  obtain ⟨L, hLe⟩ : ∃ L, L = keys.length := ⟨_, rfl⟩
  rw [← hLe] at KS ⊢
  clear hb h hs hl hsz hJ hJ1 hJ2 hLe hbd
  go_enter Tryz.func4, Tryz.ntmps4
  go_wp2_with fail
  with_reducible refine KS.out.mono ?_
  rintro e w1 ⟨rfl, rfl⟩
  cases b with
  | false =>
    go_wp2_with fail
    with_reducible refine KA.out.mono ?_
    rintro e w2 ⟨rfl, hb2⟩
    have HB2 := Lib.hid hb2
    clear hb2
    go_wp2
    go_ret
    exact ⟨rfl, HB2.out⟩
  | true =>
    have h3 : 300 < np := by
      rcases h' with h | h
      · cases h
      · exact h
    have e3 : (300 : Int) < (np : Int) := by omega
    clear h'
    go_wp2_with fail
    with_reducible refine KA.out.mono ?_
    rintro e w2 ⟨rfl, hb2⟩
    have HB2 := Lib.hid hb2
    clear hb2
    go_wp2
    go_ret
    exact ⟨rfl, HB2.out⟩
end Go.Proofs.YtknefjigdlbacaaGreatDoor
set_option linter.unusedSimpArgs false
set_option linter.unusedVariables false
namespace Go.Proofs.YtknefjigdlbacaaGreatDoor
open Go.RowKit Go.Maps
open Mm (Mem Blk)
open Ac (A)
/-- A row's cell. -/
theorem row_cell {w : World} {base n i : Nat} {t : TypeId} {v : Value} {xs : List Value} (h : w.ownsRow base t 1 v n xs) (hi : i < n) : ∃ g cap, v = .slice (some ⟨g, 0, none⟩) n cap ∧ g < w.heap.size ∧ v.ownBlock = some g ∧ n ≤ cap ∧ cap ≤ maxLen ∧ w.cell? ⟨g, 0 + i, none⟩ = xs[i]? := by
  rcases h.2 with ⟨rfl, h0⟩ | ⟨g, cap, cur, rfl, hb, hg, h1, h2, h3, h4⟩
  · omega
  · refine ⟨g, cap, rfl, (Array.getElem?_eq_some_iff.1 hg).1, rfl, h1, h2, ?_⟩
    have e : xs[i]? = cur[i]? := by
      rw [← h4, List.getElem?_take, if_pos (by omega), Array.getElem?_toList]
    rw [e, Nat.zero_add]
    simp [World.cell?, hg]
theorem row_form {w : World} {base n : Nat} {t : TypeId} {v : Value} {xs : List Value} (h : w.ownsRow base t 1 v n xs) : ∃ ad cap, v = .slice ad n cap := by
  rcases h.2 with ⟨rfl, h0⟩ | ⟨g, cap, cur, rfl, -⟩
  · exact ⟨none, 0, by rw [h0]⟩
  · exact ⟨_, cap, rfl⟩
open Sk
section
variable {L : Nat} {ks : Nat → List UInt8} {sd k : Nat} {s : Nat → Sk.S} {M : Mem}
abbrev oB (L : Nat) (ks : Nat → List UInt8) : Nat → List Nat := bK L ks (fun _ => [])
abbrev oC (L : Nat) (ks : Nat → List UInt8) (sd : Nat) : Nat → Sk.C := cK (fun r => r) (L : Int) 1 sd 0 ks
/-- k seeks are made. -/
structure OnM (L : Nat) (ks : Nat → List UInt8) (sd k : Nat) (s : Nat → Sk.S) (M : Mem) : Prop where
  gi : Gi (oB L ks) 1 t0 k (oC L ks sd) s
  see : See (oB L ks) 1 L (2 + k) 0 t0 M
  last : M.last = 2 + k
  faults : M.faults = 0
  room : M.room = 300
  used : Mm.used M.L ≤ 30 + 6 * k
/-- What the keys may be. -/
structure Few (L : Nat) (ks : Nat → List UInt8) : Prop where
  l1 : 1 ≤ L
  l6 : L ≤ 6
  ks : ∀ r, r < L → (ks r).length ≤ 16
theorem onm_zero (f : Few L ks) {s : Nat → Sk.S} : OnM L ks sd 0 s (Fm 300 (2 + 2 * L) (7 + 9 * 1) 0) := by
  have h1 := f.l1
  have h6 := f.l6
  refine ⟨gi_zero _ _ _ _, ?_, rfl, rfl, rfl, ?_⟩
  · refine see_zero (M := Fm 300 (2 + 2 * L) (7 + 9 * 1) 0) (ds := ((List.replicate (2 + 2 * L) 0).set 0 2).set 1 16) (ts := (List.replicate (7 + 9 * 1) 0).set 0 ((0 : Nat) : Int)) _ rfl rfl ?_ (fun j => ?_) ?_ ?_ (fun j hj => ?_)
    · rw [List.length_set, List.length_set, List.length_replicate]
    · rw [getD_set _ _ _ (by rw [List.length_set, List.length_replicate]; omega)]
      split
      · omega
      · rw [getD_set _ _ _ (by rw [List.length_replicate]; omega)]
        split
        · omega
        · rw [getD_rep]; omega
    · rw [List.length_set, List.length_replicate]
    · rw [getD_set _ _ _ (by rw [List.length_replicate]; omega), if_pos rfl]; omega
    · rw [getD_set _ _ _ (by rw [List.length_replicate]; omega), if_neg (by omega), getD_rep]
  · show Mm.used [(1, ((List.replicate (2 + 2 * L) (0 : Int)).set 0 2).set 1 16), (2, (List.replicate (7 + 9 * 1) 0).set 0 ((0 : Nat) : Int))] ≤ _
    simp only [Mm.used, List.length_set, List.length_replicate]
    omega
theorem onm_new (f : Few L ks) (hk : k < L) (h : OnM L ks sd k s M) (hG : Mm.Good M) : OnM L ks sd (k + 1) (upd s k (Sk.start (oC L ks sd k) false)) (Smx M (Kr.up (Kr.bx (ks k) []))) := by
  have h1 := f.l1
  have h6 := f.l6
  have hv : ∀ r, r < L → ((fun _ => [] : Nat → List UInt8) r).length ≤ 24 := fun r hr => by show 0 ≤ 24; omega
  refine ⟨gi_new h.gi (ok_K (by show k ≤ 63; omega) (by decide) (by omega)) (by show Tb.grp 0 = 1; decide) (fun _ => lay_K (by omega) f.ks hv hk) (.inr rfl), ?_, ?_, h.faults, h.room, ?_⟩
  · have := see_box (nb := 2 + k) (M' := Smx M (Kr.up (Kr.bx (ks k) []))) h.see (by
      show M.L ++ [(M.last + 1, Kr.up (Kr.bx (ks k) []))] = M.L ++ [(2 + k + 1, Kr.up (oB L ks (2 + k + 1)))]
      rw [h.last, show 2 + k + 1 = 3 + k by omega]
      show _ = M.L ++ [(3 + k, Kr.up (bK L ks (fun _ => []) (3 + k)))]
      rw [bK_at hk]) (by
      have := Mm.new_get M hG
      rwa [h.last] at this) (by omega)
    exact this
  · show M.last + 1 = _
    rw [h.last]; omega
  · show Mm.used (M.L ++ [(M.last + 1, _)]) ≤ _
    rw [Mm.used_append]
    have := (bx_bd (f.ks k hk) (hv k hk)).2
    have := h.used
    simp only [Mm.used, Kr.up_len]
    simp only at *
    omega
theorem onm_mid (h : OnM L ks sd L s M) : Mid (oB L ks) 1 L (2 + L) 0 L (oC L ks sd) M (s, M) := ⟨⟨t0, h.gi, h.see, wb_zero⟩, Keep.refl M⟩
theorem onm_std (f : Few L ks) {B : Nat} (hl : 0 < B) : Std (oB L ks) 1 L (2 + L) B L (oC L ks sd) := by
  have h1 := f.l1
  have h6 := f.l6
  refine ⟨env_K (by omega) (by omega) (fun r hr => hr) f.ks (fun r hr => by show 0 ≤ 24; omega) (Nat.le_refl _) rfl, fun i hi => ⟨ok_K (by show i ≤ 63; omega) (by decide) (by omega), by show Tb.right ((2 : Nat) : Int) (Tb.grp 0) = true; decide, ?_⟩, fun i hi => by show 3 + i ≠ 0; omega, by omega, hl⟩
  show Dk.right ((1 : Nat) : Int) (i : Int) (L : Int) 1 = true
  unfold Dk.right Dk.inn
  simp
  omega
theorem mid_mono {Bx : Nat → List Nat} {G nn nb m m' R : Nat} {c : Nat → Sk.C} {M0 : Mem} {x : (Nat → Sk.S) × Mem} (h : Mid Bx G nn nb m R c M0 x) (hm : m ≤ m') : Mid Bx G nn nb m' R c M0 x := by
  induction m' with
  | zero => obtain rfl : m = 0 := by omega
            exact h
  | succ m' ih =>
    by_cases e : m = m' + 1
    · subst e; exact h
    · exact (ih (by omega)).up
/-- What is found in the end. -/
theorem onm_end (f : Few L ks) {m : Nat} {M0 : Mem} {x : (Nat → Sk.S) × Mem} (h : Mid (oB L ks) 1 L (2 + L) m L (oC L ks sd) M0 x) (hend : ∀ r, r < L → (x.1 r).p = 0) :
    (∀ r, r < L → (x.1 r).f.k = 2 ∨ (x.1 r).f.k = 3) ∧ (∀ r k, r < L → k < L → (ks r = ks k → (x.1 r).f.c = (x.1 k).f.c ∧ (x.1 r).f.w = (x.1 k).f.w) ∧ (ks r ≠ ks k → (x.1 r).f.c ≠ (x.1 k).f.c)) ∧ (∀ r, r < L → ∃ q, q < L ∧ ks q = ks r ∧ (x.1 q).f.k = 3 ∧ ∀ k, k < L → ks k = ks r → (x.1 k).f.k = 3 → k = q) ∧ (∀ r, r < L → Sk.Wf (oC L ks sd r) (x.1 r)) ∧ x.2.faults = M0.faults := by
  obtain ⟨⟨t, gi, -, -⟩, K⟩ := h
  have h6 := f.l6
  obtain ⟨a, b, d⟩ := once gi hend (fun r hr => by show 3 + r ≠ 0; omega) (by omega) (fun r hr => ⟨by show (0 : Int) ≤ 0; omega, by show (0 : Int) ≤ 9; omega⟩) (fun _ _ _ _ => rfl) (fun r k hr hk e => by
    show Mx.hsh sd (ks r) = Mx.hsh sd (ks k)
    rw [show ks r = ks k from e]) (fun r k hr hk e => inj_K (by omega) (by omega) e)
  exact ⟨a, b, d, gi.wf, K.faults⟩
end
end Go.Proofs.YtknefjigdlbacaaGreatDoor
set_option linter.unusedSimpArgs false
set_option linter.unusedVariables false
namespace Go.Proofs.YtknefjigdlbacaaGreatDoor
open Go.RowKit Go.Maps
open Mm (Mem Blk)
open Ac (A)
theorem Stx.all {w : World} {B : Nat} {a : Option Addr} {ks : List ByteArray} (h : Stx w B a ks) (h0 : 0 < ks.length) : ∃ b off, a = some ⟨b, off, none⟩ ∧ ∀ j, j < ks.length → ∀ w', Below B w w' → w'.cell? ⟨b, off + j, none⟩ = some (.string (ks.getD j ⟨#[]⟩)) := by
  rcases h with h | ⟨b, off, e, hlt, hc⟩
  · subst h; exact absurd h0 (Nat.not_lt_zero _)
  · refine ⟨b, off, e, fun j hj w' hb => ?_⟩
    have := hc j hj
    unfold World.cell? at this ⊢
    rw [hb.block b hlt]
    exact this
def vals9 (q : Nat → Nat) (k : Nat) : List Value := (List.range k).map fun i => rvk (q i)
def vals10 (q : Nat → Nat) (k : Nat) : List Value := (List.range k).map fun i => Value.pointer (some ⟨q i, 0, none⟩)
theorem vals9_succ (q : Nat → Nat) (k : Nat) : vals9 q (k + 1) = vals9 q k ++ [rvk (q k)] := by simp [vals9, List.range_succ]
theorem vals10_succ (q : Nat → Nat) (k : Nat) : vals10 q (k + 1) = vals10 q k ++ [Value.pointer (some ⟨q k, 0, none⟩)] := by simp [vals10, List.range_succ]
theorem vals9_at {q : Nat → Nat} {k i : Nat} (h : i < k) : (vals9 q k)[i]? = some (rvk (q i)) := by simp [vals9, h]
theorem vals10_at {q : Nat → Nat} {k i : Nat} (h : i < k) : (vals10 q k)[i]? = some (Value.pointer (some ⟨q i, 0, none⟩)) := by simp [vals10, h]
theorem vals9_congr {q q' : Nat → Nat} {k : Nat} (h : ∀ i, i < k → q' i = q i) : vals9 q' k = vals9 q k := by
  unfold vals9
  refine List.map_congr_left fun i hi => ?_
  rw [h i (by simpa using hi)]
theorem vals10_congr {q q' : Nat → Nat} {k : Nat} (h : ∀ i, i < k → q' i = q i) : vals10 q' k = vals10 q k := by
  unfold vals10
  refine List.map_congr_left fun i hi => ?_
  rw [h i (by simpa using hi)]
theorem info_rout : (Tryz.prog.info? 63).map (fun i => (i.zero, i.size, i.bytes)) = some (some .nilIface, 1, 16) := by kernel_rfl
theorem info_pseek : (Tryz.prog.info? 31).map (fun i => (i.zero, i.size, i.bytes)) = some (some (.pointer none), 1, 8) := by kernel_rfl
/-- Both rows, apart from one another, from G and from z. -/
structure Rws (B : Nat) (G : Nat → Prop) (z : Nat) (q : Nat → Nat) (k9 k10 : Nat) (v9 v10 : Value) (W : World) : Prop where
  r9 : W.ownsRow B 63 1 v9 k9 (vals9 q k9)
  r10 : W.ownsRow B 31 1 v10 k10 (vals10 q k10)
  o9 : RowOut G v9
  o10 : RowOut G v10
  z9 : v9.ownBlock ≠ some z
  z10 : v10.ownBlock ≠ some z
  ne : ∀ g, v9.ownBlock = some g → v10.ownBlock ≠ some g
section
variable {B z k9 k10 : Nat} {G G' : Nat → Prop} {q q' : Nat → Nat} {v9 v10 v' : Value} {W W' X w3 : World}
theorem Rws.tn (h : Rws B G z q k9 k10 v9 v10 W) (ht : Tn G G' W W') : Rws B G' z q k9 k10 v9 v10 W' :=
  ⟨(row_tn h.r9 h.o9 ht).1, (row_tn h.r10 h.o10 ht).1, (row_tn h.r9 h.o9 ht).2, (row_tn h.r10 h.o10 ht).2, h.z9, h.z10, h.ne⟩
theorem Rws.below (h : Rws B G z q k9 k10 v9 v10 W) (hb : Below W.heap.size W W') : Rws B G z q k9 k10 v9 v10 W' :=
  ⟨row_below h.r9 hb, row_below h.r10 hb, h.o9, h.o10, h.z9, h.z10, h.ne⟩
theorem Rws.congr (h : Rws B G z q k9 k10 v9 v10 W) (hq : ∀ i, i < k9 ∨ i < k10 → q' i = q i) : Rws B G z q' k9 k10 v9 v10 W :=
  ⟨by rw [vals9_congr fun i hi => hq i (.inl hi)]; exact h.r9, by rw [vals10_congr fun i hi => hq i (.inr hi)]; exact h.r10, h.o9, h.o10, h.z9, h.z10, h.ne⟩
theorem Rws.grow10 (h : Rws B G z q k9 k10 v9 v10 X) (hG : ∀ k, G k → k < X.heap.size) (hz : z < X.heap.size) (hown : w3.ownsRow B 31 1 v' (k10 + 1) (vals10 q k10 ++ [Value.pointer (some ⟨q k10, 0, none⟩)])) (hg : X.grownBy w3 v10.ownBlock) (hat : v'.ownBlock = v10.ownBlock ∨ v'.ownBlock = some X.heap.size) :
    Rws B G z q k9 (k10 + 1) v9 v' w3 ∧ ∀ j, j < X.heap.size → (G j ∨ j < B ∨ j = z) → w3.heap[j]? = X.heap[j]? := by
  obtain ⟨a, b⟩ := row_grown h.r10 (G := fun g => G g ∨ g = z ∨ v9.ownBlock = some g) (fun g hg e => by
    rcases e with e | e | e
    · exact h.o10 g hg e
    · subst e; exact h.z10 hg
    · exact h.ne g e hg) (fun k e => by
    rcases e with e | e | e
    · exact hG k e
    · omega
    · exact (rown_at h.r9 k e).2.1) hg hat
  refine ⟨⟨row_keep h.r9 (fun g hg9 => b g (rown_at h.r9 g hg9).2.1 (.inl (.inr (.inr hg9)))), by rw [vals10_succ]; exact hown, h.o9, fun g hg e => a g hg (.inl e), h.z9, fun e => a z e (.inr (.inl rfl)), fun g hg9 e => a g e (.inr (.inr hg9))⟩, fun j hj e => ?_⟩
  rcases e with e | e | e
  · exact b j hj (.inl (.inl e))
  · exact b j hj (.inr e)
  · exact b j hj (.inl (.inr (.inl e)))
theorem Rws.grow9 (h : Rws B G z q k9 k10 v9 v10 X) (hG : ∀ k, G k → k < X.heap.size) (hz : z < X.heap.size) (hown : w3.ownsRow B 63 1 v' (k9 + 1) (vals9 q k9 ++ [rvk (q k9)])) (hg : X.grownBy w3 v9.ownBlock) (hat : v'.ownBlock = v9.ownBlock ∨ v'.ownBlock = some X.heap.size) :
    Rws B G z q (k9 + 1) k10 v' v10 w3 ∧ ∀ j, j < X.heap.size → (G j ∨ j < B ∨ j = z) → w3.heap[j]? = X.heap[j]? := by
  obtain ⟨a, b⟩ := row_grown h.r9 (G := fun g => G g ∨ g = z ∨ v10.ownBlock = some g) (fun g hg e => by
    rcases e with e | e | e
    · exact h.o9 g hg e
    · subst e; exact h.z9 hg
    · exact h.ne g hg e) (fun k e => by
    rcases e with e | e | e
    · exact hG k e
    · omega
    · exact (rown_at h.r10 k e).2.1) hg hat
  refine ⟨⟨by rw [vals9_succ]; exact hown, row_keep h.r10 (fun g hg9 => b g (rown_at h.r10 g hg9).2.1 (.inl (.inr (.inr hg9)))), fun g hg e => a g hg (.inl e), h.o10, fun e => a z e (.inr (.inl rfl)), h.z10, fun g hg9 e => a g hg9 (.inr (.inr e))⟩, fun j hj e => ?_⟩
  rcases e with e | e | e
  · exact b j hj (.inl (.inl e))
  · exact b j hj (.inr e)
  · exact b j hj (.inl (.inr (.inl e)))
end
/-- SeekOnce's world while its seeks are made: n of them, of which the rows hold k9 and k10. -/
def MkAt (ks : Nat → List UInt8) (L sd : Nat) (B p z : Nat) (w : World) (n k9 k10 : Nat) (v9 v10 : Value) (W : World) (q : Nat → Nat) (s : Nat → Sk.S) (M : Mem) (F : Nat → Prop) (H : Nat → Nat → Prop) : Prop :=
  OnM L ks sd n s M ∧ Sms B W p M n q (oC L ks sd) s F H ∧ Aside (Tots n F H) W z (.cells #[.int .u64 2, .int .i64 0] 24 (0, 0)) ∧ Rws B (Tots n F H) z q k9 k10 v9 v10 W ∧ Below B w W
section
variable {ks : Nat → List UInt8} {L sd B p z n k x k9 k10 : Nat} {w W X w3 : World} {v9 v10 v' : Value} {q : Nat → Nat} {s : Nat → Sk.S} {M : Mem} {F : Nat → Prop} {H : Nat → Nat → Prop}
theorem MkAt.below (h : MkAt ks L sd B p z w n k9 k10 v9 v10 W q s M F H) (hb : Below W.heap.size W X) (hB : B ≤ W.heap.size) : MkAt ks L sd B p z w n k9 k10 v9 v10 X q s M F H := by
  obtain ⟨h1, h2, h3, h4, h5⟩ := h
  exact ⟨h1, h2.below hb, h3.below hb, h4.below hb, h5.trans (hb.mono hB)⟩
theorem grown_below (hw : Below B w X) (hBX : B ≤ X.heap.size) {row : Option Nat} (hg : X.grownBy w3 row) (hk : ∀ j, j < B → w3.heap[j]? = X.heap[j]?) : Below B w w3 :=
  ⟨hg.os.trans hw.os, hg.tape.trans hw.tape, hg.output.trans hw.output, Nat.le_trans hw.size hg.size, fun j hj => (hk j hj).trans (hw.block j hj)⟩
/-- The list of seeks takes one more. -/
theorem MkAt.take10 (h : MkAt ks L sd B p z w n k9 k10 v9 v10 X q s M F H) (hB : B ≤ X.heap.size) (hown : w3.ownsRow B 31 1 v' (k10 + 1) (vals10 q k10 ++ [Value.pointer (some ⟨q k10, 0, none⟩)])) (hg : X.grownBy w3 v10.ownBlock) (hat : v'.ownBlock = v10.ownBlock ∨ v'.ownBlock = some X.heap.size) :
    MkAt ks L sd B p z w n k9 (k10 + 1) v9 v' w3 q s M F H := by
  obtain ⟨h1, h2, h3, h4, h5⟩ := h
  obtain ⟨a, b⟩ := h4.grow10 (fun k hk => (h2.foot hk).2) h3.lt hown hg hat
  exact ⟨h1, h2.keep (fun j hj => b j (h2.foot hj).2 (.inl hj)), ⟨(b z h3.lt (.inr (.inr rfl))).trans h3.at', h3.apart⟩, a, grown_below h5 hB hg (fun j hj => b j (by omega) (.inr (.inl hj)))⟩
theorem MkAt.take9 (h : MkAt ks L sd B p z w n k9 k10 v9 v10 X q s M F H) (hB : B ≤ X.heap.size) (hown : w3.ownsRow B 63 1 v' (k9 + 1) (vals9 q k9 ++ [rvk (q k9)])) (hg : X.grownBy w3 v9.ownBlock) (hat : v'.ownBlock = v9.ownBlock ∨ v'.ownBlock = some X.heap.size) :
    MkAt ks L sd B p z w n (k9 + 1) k10 v' v10 w3 q s M F H := by
  obtain ⟨h1, h2, h3, h4, h5⟩ := h
  obtain ⟨a, b⟩ := h4.grow9 (fun k hk => (h2.foot hk).2) h3.lt hown hg hat
  exact ⟨h1, h2.keep (fun j hj => b j (h2.foot hj).2 (.inl hj)), ⟨(b z h3.lt (.inr (.inr rfl))).trans h3.at', h3.apart⟩, a, grown_below h5 hB hg (fun j hj => b j (by omega) (.inr (.inl hj)))⟩
/-- A box and a seek more. -/
theorem MkAt.made (h : MkAt ks L sd B p z w n k9 k10 v9 v10 W q s M F H) (f : Few L ks) (hn : n < L) (h9 : k9 ≤ n) (h10 : k10 ≤ n) {F' : Nat → Prop} {W1 W2 : World} (hB : B ≤ W.heap.size) (ha : Ax B W1 p (Smx M (Kr.up (Kr.bx (ks n) []))) F') (ht : Tn F F' W W1)
    (hq : W1.heap.size ≤ x) (hks : Ks B W2 x (oC L ks sd n) (Sk.start (oC L ks sd n) false) (fun j => j = x)) (hb : Below W1.heap.size W1 W2) :
    MkAt ks L sd B p z w (n + 1) k9 k10 v9 v10 W2 (updq q n x) (Sk.upd s n (Sk.start (oC L ks sd n) false)) (Smx M (Kr.up (Kr.bx (ks n) []))) F' (updH H n (fun j => j = x)) := by
  obtain ⟨h1, h2, h3, h4, h5⟩ := h
  obtain ⟨h2', ht'⟩ := h2.arena ha ht
  obtain ⟨h2n, ht2⟩ := h2'.new hks (fun j e => by rw [show j = x from e]; exact hq) hb
  have ht3 := ht'.trans ht2
  exact ⟨onm_new f hn h1 h2.ar.good, h2n, h3.tn ht3, (h4.tn ht3).congr (fun i hi => updq_ne (by omega)), h5.trans ((ht3.below (fun j hj => (h2.foot hj).1) hB))⟩
end
end Go.Proofs.YtknefjigdlbacaaGreatDoor
