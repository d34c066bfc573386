/-
  Several texts in one: What acts do to a memory, whatever they are; a maker done alone on a memory with room; A seek as a routine, along a course that is known; done alone. By an AI agent.
-/
import Derived.Test.YtknefjigdlbacaaGreatDoorSkKBO
import Derived.Test.YtknefjigdlbacaaGreatDoorSkKAC
import Derived.Test.YtknefjigdlbacaaGreatDoorSkKAI
import Derived.Test.YtknefjigdlbacaaGreatDoorSkKBM
import Derived.Test.YtknefjigdlbacaaGreatDoorSkKAE
set_option linter.unusedSimpArgs false
set_option linter.unusedVariables false
namespace Go.Proofs.YtknefjigdlbacaaGreatDoor
open Go.RowKit Go.Maps
open Mm (Mem Blk)
open Ac (A)
theorem Mm.put_none' : ∀ {l : List Blk} {n : Nat} (i : Nat) (v : Int), Mm.get l n = none → Mm.put l n i v = l
  | [], _, _, _, _ => rfl
  | b :: r, n, i, v, h => by
    unfold Mm.get at h
    unfold Mm.put
    split at h
    · cases h
    · rename_i e
      rw [if_neg e, Mm.put_none' i v h]
theorem Mm.put_append' : ∀ (l m : List Blk) (n i : Nat) (v : Int), Mm.put (l ++ m) n i v = Mm.put l n i v ++ Mm.put m n i v
  | [], _, _, _, _ => rfl
  | b :: r, m, n, i, v => by
    show _ :: Mm.put (r ++ m) n i v = _ :: (Mm.put r n i v ++ Mm.put m n i v)
    rw [Mm.put_append' r m n i v]
/-- The memory behind an Alloc and k stores. -/
def Smx (S : Mem) (ws : List Int) : Mem := ⟨S.room, S.last + 1, S.faults, S.L ++ [(S.last + 1, ws)]⟩
def Smg (S : Mem) (l : List Nat) : Nat → Mem
  | 0 => S
  | k + 1 => Smx S (row l k)
theorem smx_get {S : Mem} (hG : Mm.Good S) (ws : List Int) : Mm.get (Smx S ws).L (S.last + 1) = some ws := by
  show Mm.get (S.L ++ _) _ = _
  rw [Mm.get_append, Mm.new_get S hG]
  simp [Mm.get]
theorem smx_put {S : Mem} (hG : Mm.Good S) (ws : List Int) (i : Nat) (v : Int) : (Smx S ws).put (S.last + 1) i v = Smx S (ws.set i v) := by
  unfold Smx Mem.put
  simp only [Mm.put_append', Mm.put_none' i v (Mm.new_get S hG)]
  simp [Mm.put]
theorem smg_does {S : Mem} {l : List Nat} (hG : Mm.Good S) (hn : l.length ≤ S.room - Mm.used S.L) (hl : S.last ≤ 1000000000000) (h1 : 1 ≤ l.length) (h2 : l.length ≤ 1000) : ∀ k, k < cnt l.length (S.last + 1) → DoesIt (Smg S l k) (Kr.act l k (S.last + 1)) (((if k = 0 then S.last + 1 else 0 : Nat) : Nat) : Int) (Smg S l (k + 1))
  | 0, _ => by
    rw [Kr.act_zero, if_pos rfl]
    have := does_alloc hG l.length h1 hn hl
    rw [show ((S.last + 1 : Nat) : Int) = (S.last : Int) + 1 by omega]
    exact this
  | k + 1, hk => by
    have hm := (Kr.more_succ (n := l.length) (j := k) (b := S.last + 1)).1 (by rw [← more_cnt]; exact decide_eq_true hk)
    rw [Kr.act_store hm.1 hm.2, if_neg (by omega)]
    show DoesIt (Smx S (row l k)) _ _ (Smx S ((row l k).set k ((l.getD k 0 : Nat) : Int)))
    rw [← smx_put hG]
    exact does_store (S := Smx S (row l k)) (ws := row l k) (S.last + 1) k (l.getD k 0) (by omega) (smx_get hG _) (by rw [row_len]; exact hm.2) (by omega)
/-- What a maker leaves that was done alone. -/
def Ran2 (B p q g : Nat) (S : Mem) (l : List Nat) (F : Nat → Prop) (w : World) (e : Ending) (w' : World) : Prop :=
  e = .returned (.tuple #[.int .i64 ((l.length + 1 : Nat) : Int), .bool true]) ∧ ∃ F' H' g' c', Ax B w' p (Smx S (Kr.up l)) F' ∧ Mst B w' q l g' c' (l.length + 1) (S.last + 1) ∧ (∀ k, F' k → B ≤ k ∧ k < w'.heap.size) ∧ Tn (Or2 F (fun j => j = q ∨ j = g)) (Or2 F' H') w w'
theorem kalone2 {B : Nat} {w : World} {p q g c : Nat} {S : Mem} {l : List Nat} {F : Nat → Prop} (ha : Ax B w p S F) (hm : Mst B w q l g c 0 0) (hap : ¬ F q ∧ ¬ F g) (hlow : 0 < B) (hB : B ≤ w.heap.size) (hG : Mm.Good S) (hn : l.length ≤ S.room - Mm.used S.L) (hl : S.last ≤ 1000000000000) (h1 : 1 ≤ l.length) (h2 : l.length ≤ 6) (most : Int) (hmost : 7 ≤ most) :
    Calls Tryz.prog 17 #[.pointer (some ⟨p, 0, none⟩), rv q, .int .i64 most] w (Ran2 B p q g S l F w) := by
  have hN : cnt l.length (S.last + 1) = l.length + 1 := by unfold cnt; rw [if_neg (by omega)]
  have hst : KSt q l (S.last + 1) B w 0 (fun j => j = q ∨ j = g) := ⟨Nat.zero_le _, g, c, ⟨hm.qB, hm.gB, hm.ne, by have := hm.own; rw [Kr.act_zero] at this ⊢; exact this, hm.ltg, hm.wds⟩, rfl⟩
  have hdu : Du (krt q l (S.last + 1) h1 (by omega)) B w p (Smg S l 0) 0 F (fun j => j = q ∨ j = g) := ⟨ha, hst, by rintro k (rfl | rfl); exact hap.1; exact hap.2, hlow⟩
  refine (alone_any (krt q l (S.last + 1) h1 (by omega)) (Sm := Smg S l) hdu hB most (by show cnt l.length (S.last + 1) ≤ 1000; omega) (smg_does hG hn hl h1 (by omega))).mono ?_
  rintro e w' ⟨he, F', H', hd, ht⟩
  have hmin : min most.toNat (krt q l (S.last + 1) h1 (by omega)).N = l.length + 1 := by show min most.toNat (cnt l.length (S.last + 1)) = _; omega
  rw [hmin] at he hd
  obtain ⟨hk, g', c', hm', -⟩ := hd.ro
  have har : Ax B w' p (Smx S (row l l.length)) F' := hd.ar
  rw [row_up] at har
  refine ⟨?_, F', H', g', c', har, hm', fun k hk => har.foot hk, ht⟩
  rw [he, decide_eq_true (show (krt q l (S.last + 1) h1 (by omega)).N ≤ l.length + 1 by show cnt l.length (S.last + 1) ≤ _; omega)]
theorem does_load {S : Mem} {ws : List Int} (b j v : Nat) (hb : b < 18446744073709551616) (hg : Mm.get S.L b = some ws) (hj : ws[j]? = some (v : Int)) (hj2 : j ≤ 1000000) : DoesIt S ⟨1, b, (j : Int), 0, 0⟩ v S :=
  fun B w p F h hB => dstep1 _ b (j : Int) 0 0 (v : Int) 0 w _ (by omega) (by simp [Ac.right, Ac.known, Ac.fb, Ac.fc, Ac.fo, Ac.fn]) fun w1 hw1 => of_same hw1 (ax_at hw1 h) (load_ok (ax_at hw1 h) hb hg j hj)
theorem does_add {S : Mem} {ws : List Int} (b j v x : Nat) (hb : b < 18446744073709551616) (hg : Mm.get S.L b = some ws) (hj : ws[j]? = some (v : Int)) (hj2 : j ≤ 1000000) (hx : v + x < 18446744073709551616) : DoesIt S ⟨4, b, (j : Int), 0, x⟩ v (S.put b j ((v + x : Nat) : Int)) :=
  fun B w p F h hB => dstep4 _ b (j : Int) 0 x (v : Int) 0 w _ (by omega) (by simp [Ac.right, Ac.known, Ac.fb, Ac.fc, Ac.fo, Ac.fn]) fun w1 hw1 => of_turns hw1 (by
    have := add_ok (ax_at hw1 h) hb hg j hj (x : Int)
    rwa [show IntKind.u64.wrap ((v : Int) + (x : Int)) = ((v + x : Nat) : Int) by rw [u64_wrap_small (by omega) (by omega)]; omega] at this)
theorem does_casy {S : Mem} {ws : List Int} (b j v n : Nat) (hb : b < 18446744073709551616) (hg : Mm.get S.L b = some ws) (hj : ws[j]? = some (v : Int)) (hj2 : j ≤ 1000000) : DoesIt S ⟨3, b, (j : Int), v, n⟩ v (S.put b j (n : Int)) :=
  fun B w p F h hB => dstep3 _ b (j : Int) v n (v : Int) 0 w _ (by omega) (by simp [Ac.right, Ac.known, Ac.fb, Ac.fc, Ac.fo, Ac.fn]) fun w1 hw1 => of_turns hw1 (cas_yes (ax_at hw1 h) hb hg j hj (n : Int))
theorem does_casn {S : Mem} {ws : List Int} (b j v o n : Nat) (hb : b < 18446744073709551616) (hg : Mm.get S.L b = some ws) (hj : ws[j]? = some (v : Int)) (hj2 : j ≤ 1000000) (ho : v ≠ o) : DoesIt S ⟨3, b, (j : Int), o, n⟩ v S :=
  fun B w p F h hB => dstep3 _ b (j : Int) o n (v : Int) 0 w _ (by omega) (by simp [Ac.right, Ac.known, Ac.fb, Ac.fc, Ac.fo, Ac.fn]) fun w1 hw1 => of_same hw1 (ax_at hw1 h) (cas_no (ax_at hw1 h) hb hg j hj (o : Int) (n : Int) (by omega))
/-! ### acts, as functions of the memory -/
/-- The cell that an act is about. -/
def Mm.at_ (M : Mem) (x : A) : Nat := match Mm.get M.L x.b with | some ws => (ws.getD x.c.toNat 0).toNat | none => 0
/-- What is answered. -/
def Mm.ans (M : Mem) (x : A) : Nat := if x.k = 2 then 0 else Mm.at_ M x
/-- The memory behind. -/
def Mm.aft (M : Mem) (x : A) : Mem :=
  if x.k = 2 then M.put x.b x.c.toNat (x.n : Int)
  else if x.k = 3 then (if Mm.at_ M x = x.o then M.put x.b x.c.toNat (x.n : Int) else M)
  else if x.k = 4 then M.put x.b x.c.toNat ((Mm.at_ M x + x.n : Nat) : Int)
  else M
/-- An act on a cell that is there. -/
structure Mm.Ok (M : Mem) (x : A) (ws : List Int) : Prop where
  b : x.b < 18446744073709551616
  get : Mm.get M.L x.b = some ws
  c0 : 0 ≤ x.c
  c1 : x.c.toNat < ws.length
  len : ws.length ≤ 1000000
  pos : 0 ≤ ws.getD x.c.toNat 0
  form : (x.k = 1 ∧ x.o = 0 ∧ x.n = 0) ∨ (x.k = 2 ∧ x.o = 0) ∨ x.k = 3 ∨ (x.k = 4 ∧ x.o = 0 ∧ (ws.getD x.c.toNat 0).toNat + x.n < 18446744073709551616)
theorem does_it {M : Mem} {x : A} {ws : List Int} (h : Mm.Ok M x ws) : DoesIt M x (Mm.ans M x : Nat) (Mm.aft M x) := by
  obtain ⟨xk, xb, xc, xo, xn⟩ := x
  obtain ⟨hb, hg, h0, h1, hl, hp, hf⟩ := h
  simp only at hb hg h0 h1 hl hp hf
  obtain ⟨j, hj⟩ : ∃ j : Nat, xc = (j : Int) := ⟨xc.toNat, by omega⟩
  subst hj
  rw [Int.toNat_natCast] at h1 hp hf
  have e : Mm.at_ M ⟨xk, xb, (j : Int), xo, xn⟩ = (ws.getD j 0).toNat := by unfold Mm.at_; simp only [hg, Int.toNat_natCast]
  have hv : ws[j]? = some (((ws.getD j 0).toNat : Nat) : Int) := by
    rw [List.getElem?_eq_getElem h1]
    rw [List.getD_eq_getElem?_getD, List.getElem?_eq_getElem h1] at hp ⊢
    simp only [Option.getD_some] at hp ⊢
    rw [Int.toNat_of_nonneg hp]
  unfold Mm.ans Mm.aft
  simp only [e, Int.toNat_natCast]
  rcases hf with ⟨rfl, rfl, rfl⟩ | ⟨rfl, rfl⟩ | rfl | ⟨rfl, rfl, hx⟩
  · exact does_load xb j _ hb hg hv (by omega)
  · exact does_store xb j xn hb hg h1 (by omega)
  · by_cases ho : (ws.getD j 0).toNat = xo
    · have := does_casy xb j (ws.getD j 0).toNat xn hb hg hv (by omega)
      simp only [ho, if_true] at this ⊢
      exact this
    · have := does_casn xb j (ws.getD j 0).toNat xo xn hb hg hv (by omega) ho
      simp only [ho, if_false] at this ⊢
      exact this
  · exact does_add xb j _ xn hb hg hv (by omega) hx
end Go.Proofs.YtknefjigdlbacaaGreatDoor
set_option linter.unusedSimpArgs false
set_option linter.unusedVariables false
namespace Go.Proofs.YtknefjigdlbacaaGreatDoor
open Go.RowKit Go.Maps
open Mm (Mem Blk)
open Ac (A)
/-- What a part weighs: a is the crowd's count, b the shield's part, r the reader's count. -/
def pw (p a b r : Nat) : Nat := if p = 2 then 16 - a else if p = 3 then 12 else if p = 4 then 11 else if p = 5 then 11 else if p = 6 then 10 else if p = 7 then 10 - b else if p = 8 then 7 - r else 0
/-- How much is still to come, at most. -/
def mu' (g p n i w a b r : Nat) : Nat := if p = 0 then 0 else if p = 1 then 300 * (g - n) else 300 * (g - n - 1) + 17 * Ct.emp (w : Int) 8 + 17 * (8 - i) + pw p a b r
def mu (c : Sk.C) (s : Sk.S) : Nat := mu' (Tb.grp c.lg) s.p s.n s.i s.w s.cs.length s.sh.p s.rs.length
def natc (w : World) (a : Addr) : Nat := match w.cell? a with | some (.int _ x) => x.toNat | _ => 0
def ptrc (w : World) (a : Addr) : Nat := match w.cell? a with | some (.pointer (some b)) => b.block | _ => 0
/-- The same, read from a seek's block. -/
def muv (c : Sk.C) (q : Nat) (w : World) : Nat := mu' (Tb.grp c.lg) (natc w ⟨q, 0, none⟩) (natc w ⟨q, 12, none⟩) (natc w ⟨q, 14, none⟩) (natc w ⟨q, 15, none⟩) (natc w ⟨ptrc w ⟨q, 17, none⟩, 6, none⟩) (natc w ⟨ptrc w ⟨q, 18, none⟩, 0, none⟩) (natc w ⟨ptrc w ⟨q, 19, none⟩, 2, none⟩)
theorem natc_of {w : World} {a : Addr} {k : IntKind} {n : Nat} (h : w.cell? a = some (.int k (n : Int))) : natc w a = n := by unfold natc; rw [h]; simp
theorem ptrc_of {w : World} {a b : Addr} (h : w.cell? a = some (.pointer (some b))) : ptrc w a = b.block := by unfold ptrc; rw [h]
theorem mu_a {g p n i w a a' b b' r r' : Nat} (h2 : p = 2 → a = a') (h7 : p = 7 → b = b') (h8 : p = 8 → r = r') : mu' g p n i w a b r = mu' g p n i w a' b' r' := by
  unfold mu' pw
  by_cases e2 : p = 2
  · rw [h2 e2]; subst e2; rfl
  · by_cases e7 : p = 7
    · rw [h7 e7]; subst e7; rfl
    · by_cases e8 : p = 8
      · rw [h8 e8]; subst e8; rfl
      · simp only [e2, e7, e8, if_false]
theorem muv_eq {B : Nat} {w : World} {q : Nat} {c : Sk.C} {s : Sk.S} {H : Nat → Prop} (h : Ks B w q c s H) (hs : Sk.Wf c s) : muv c q w = mu c s := by
  obtain ⟨hq, vc, vs, vr, hb, h⟩ := h
  unfold muv mu
  rw [natc_of hb.c0, natc_of hb.c12, natc_of hb.c14, natc_of hb.c15]
  rcases h with ⟨h2, h7, h8, -⟩ | ⟨h2, qc, rfl, -, hc, -⟩ | ⟨h7, qs, rfl, -, hc, -⟩ | ⟨h8, qr, ad, cc, rfl, hc, -⟩
  · exact mu_a (fun e => absurd e h2) (fun e => absurd e h7) (fun e => absurd e h8)
  · refine mu_a (fun _ => ?_) (fun e => by omega) (fun e => by omega)
    rw [ptrc_of hb.c17]; exact natc_of hc.c6
  · refine mu_a (fun e => by omega) (fun _ => ?_) (fun e => by omega)
    rw [ptrc_of hb.c18]; exact natc_of hc.c0
  · refine mu_a (fun e => by omega) (fun e => by omega) (fun _ => ?_)
    rw [ptrc_of hb.c19]
    have := hc.own.c2
    rw [Rd.act_yes (hs.rd h8).1] at this
    exact natc_of this
theorem Ks.norec {B : Nat} {w : World} {q : Nat} {c : Sk.C} {s : Sk.S} {H : Nat → Prop} (h : Ks B w q c s H) {j : Nat} {o : Obj} (hj : H j) (ho : w.heap[j]? = some o) : isRec o = false := by
  obtain ⟨hq, vc, vs, vr, hb, h⟩ := h
  have cell : ∀ {cs : Array Value} {t : TypeId} {z : Nat × Nat}, w.heap[j]? = some (.cells cs t z) → isRec o = false := fun {cs t z} e => by
    have := e.symm.trans ho
    injection this with this
    subst this; rfl
  rcases h with ⟨-, -, -, rfl⟩ | ⟨-, qc, -, -, hc, rfl⟩ | ⟨-, qs, -, -, hc, rfl⟩ | ⟨-, qr, ad, cc, -, hc, rfl⟩
  · rw [show j = q from hj] at cell; exact cell hb
  · rcases hj with rfl | rfl
    · exact cell hb
    · exact cell hc
  · rcases hj with rfl | rfl
    · exact cell hb
    · exact cell hc
  · rcases hj with rfl | rfl | hj
    · exact cell hb
    · exact cell hc.own
    · rcases hc.row.2 with ⟨h0, _⟩ | ⟨g, cap, cur, e1, _, hg, _⟩
      · rw [h0] at hj; cases hj
      · rw [e1] at hj
        injection hj with hj
        subst hj
        exact cell hg
/-- A course of a seek: the states one behind the other, by what is answered. -/
structure Course (c : Sk.C) (s : Nat → Sk.S) (v : Nat → Nat) (N : Nat) : Prop where
  wf : ∀ k, k ≤ N → Sk.Wf c (s k)
  st : ∀ k, k < N → s (k + 1) = Sk.step c (s k) (v k)
  vb : ∀ k, k < N → v k < 18446744073709551616
  go : ∀ k, k < N → (s k).p ≠ 0
  fin : (s N).p = 0
  dec : ∀ k, k < N → mu c (s (k + 1)) < mu c (s k)
theorem Course.lt {c : Sk.C} {s : Nat → Sk.S} {v : Nat → Nat} {N : Nat} (h : Course c s v N) {i j : Nat} (hij : i < j) (hj : j ≤ N) : mu c (s j) < mu c (s i) := by
  induction j with
  | zero => omega
  | succ j ih =>
    have := h.dec j (by omega)
    by_cases e : i = j
    · subst e; exact this
    · exact Nat.lt_trans this (ih (by omega) (by omega))
theorem Course.inj {c : Sk.C} {s : Nat → Sk.S} {v : Nat → Nat} {N : Nat} (h : Course c s v N) {i j : Nat} (hi : i ≤ N) (hj : j ≤ N) (e : mu c (s i) = mu c (s j)) : i = j := by
  rcases Nat.lt_trichotomy i j with hl | hl | hl
  · have := h.lt hl hj; omega
  · exact hl
  · have := h.lt hl hi; omega
/-- What a seek's table and site may be. -/
structure Sit (c : Sk.C) : Prop where
  ok : Sk.Ok c
  tr : Tb.right (c.b : Int) (Tb.grp c.lg) = true
  dr : Dk.right c.d c.th c.nn c.kp = true
def SeSt (q : Nat) (c : Sk.C) (s : Nat → Sk.S) (N : Nat) (B : Nat) (w : World) (k : Nat) (H : Nat → Prop) : Prop := k ≤ N ∧ 0 < B ∧ Ks B w q c (s k) H ∧ Bd w
open Classical in
/-- How many acts are done, by what the block weighs. -/
noncomputable def sat (q : Nat) (c : Sk.C) (s : Nat → Sk.S) (N : Nat) (w : World) : Nat := if h : ∃ k, k ≤ N ∧ mu c (s k) = muv c q w then Classical.choose h else 0
theorem sat_eq {q : Nat} {c : Sk.C} {s : Nat → Sk.S} {v : Nat → Nat} {N : Nat} (hc : Course c s v N) {B k : Nat} {w : World} {H : Nat → Prop} (h : SeSt q c s N B w k H) : sat q c s N w = k := by
  obtain ⟨hk, -, h, -⟩ := h
  have e : ∃ j, j ≤ N ∧ mu c (s j) = muv c q w := ⟨k, hk, (muv_eq h (hc.wf k hk)).symm⟩
  unfold sat
  rw [dif_pos e]
  obtain ⟨h1, h2⟩ := Classical.choose_spec e
  exact hc.inj h1 hk (h2.trans (muv_eq h (hc.wf k hk)))
/-- A seek, as a routine. -/
noncomputable def srt (q : Nat) (c : Sk.C) (s : Nat → Sk.S) (v : Nat → Nat) (N : Nat) (hi : Sit c) (hc : Course c s v N) : Rt where
  v := rvk q
  N := N
  xs := fun k => Sk.act c (s k)
  vs := fun k => ((v k : Nat) : Int)
  St := SeSt q c s N
  at' := sat q c s N
  one := rfl
  foot := by
    rintro B w k H j ⟨hk, hl, h, hb⟩ hj
    exact h.foot hj
  keep := by
    rintro B w w' k H ⟨hk, hl, h, hb⟩ hj hbd
    exact ⟨hk, hl, h.keep hj, hbd hb⟩
  at_eq := sat_eq hc
  norec := by
    rintro B w k H j o ⟨hk, hl, h, hb⟩ hj ho
    exact h.norec hj ho
  next := by
    rintro B w k H ⟨hk, hl, h, hb⟩ hN
    have e : decide (k < N) = Sk.more (s k) := by
      unfold Sk.more
      by_cases hlt : k < N
      · rw [decide_eq_true hlt]; have := hc.go k hlt; symm; simpa using this
      · have : k = N := by omega
        subst this
        rw [decide_eq_false hlt, hc.fin]; rfl
    have e2 : (if k < N then Sk.act c (s k) else ⟨0, 0, 0, 0, 0⟩) = Sk.act c (s k) := by
      by_cases hlt : k < N
      · rw [if_pos hlt]
      · have : k = N := by omega
        subst this
        rw [if_neg hlt]
        unfold Sk.act
        simp [hc.fin]
    rw [e2, e]
    exact knext_some q _ _ w fun w1 hb1 => skact_any (h.below hb1) (hc.wf k hN) hi.ok hi.tr
  take := by
    rintro B w k H ⟨hk, hl, h, hb⟩ hB hN
    refine ktake_some q _ w _ ((sktake_any h (hc.wf k hk) hi.ok hi.tr hb hi.dr hB (v k) (hc.vb k hN)).mono ?_)
    rintro e w' ⟨rfl, H', hm, ht⟩
    rw [← hc.st k hN] at hm
    refine ⟨rfl, H', ⟨hN, hl, hm, hb.block (ht.block _ hb.lt (fun e => ?_))⟩, ht⟩
    have := (h.foot e).1
    omega
/-- What a seek done alone has come to. -/
def Sran (B p q : Nat) (c : Sk.C) (sN : Sk.S) (N : Nat) (M : Mem) (F H : Nat → Prop) (w : World) (e : Ending) (w' : World) : Prop :=
  e = .returned (.tuple #[.int .i64 (N : Int), .bool true]) ∧ ∃ F' H', Ax B w' p M F' ∧ Ks B w' q c sN H' ∧ Bd w' ∧ (∀ k, H' k → ¬ F' k) ∧ Tn (Or2 F H) (Or2 F' H') w w'
theorem skalone {B : Nat} {w : World} {p q N : Nat} {c : Sk.C} {s : Nat → Sk.S} {v : Nat → Nat} {Sm : Nat → Mem} {F H : Nat → Prop} (hi : Sit c) (hc : Course c s v N) (ha : Ax B w p (Sm 0) F) (hk : Ks B w q c (s 0) H) (hap : ∀ k, H k → ¬ F k) (hbd : Bd w) (hlow : 0 < B) (hB : B ≤ w.heap.size) (hN : N ≤ 1000)
    (hD : ∀ k, k < N → DoesIt (Sm k) (Sk.act c (s k)) (v k : Nat) (Sm (k + 1))) (most : Int) (hmost : (N : Int) ≤ most) :
    Calls Tryz.prog 17 #[.pointer (some ⟨p, 0, none⟩), rvk q, .int .i64 most] w (Sran B p q c (s N) N (Sm N) F H w) := by
  have hdu : Du (srt q c s v N hi hc) B w p (Sm 0) 0 F H := ⟨ha, ⟨Nat.zero_le _, hlow, hk, hbd⟩, hap, hlow⟩
  refine (alone_any (srt q c s v N hi hc) (Sm := Sm) hdu hB most hN hD).mono ?_
  rintro e w' ⟨he, F', H', hd, ht⟩
  have hmin : min most.toNat (srt q c s v N hi hc).N = N := by show min most.toNat N = N; omega
  rw [hmin] at he hd
  obtain ⟨-, -, hks, hbd'⟩ := hd.ro
  refine ⟨?_, F', H', hd.ar, hks, hbd', hd.apart, ht⟩
  rw [he, decide_eq_true (show (srt q c s v N hi hc).N ≤ N from Nat.le_refl N)]
end Go.Proofs.YtknefjigdlbacaaGreatDoor
