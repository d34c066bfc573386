/-
  How the document's own arena lies in memory: blocks in a list; the walks of Used, Place, Size. By an AI agent.
-/
import Derived.Test.YthldjdkjgiebaaaArenaAlloc
import Derived.Test.YthldjdkjgiebaaaArenaKeys
set_option linter.unusedSimpArgs false
namespace Go.Proofs.Ythldjdkjgiebaaa
open Go.RowKit Go.Maps
open Mm (Mem Blk)
namespace Mm
/-- Where a block stands in the list. -/
def pos : List Blk → Nat → Nat
  | [], _ => 0
  | b :: r, n => if b.1 = n then 0 else pos r n + 1
theorem pos_at : ∀ {l : List Blk} {n : Nat} {ws : List Int}, get l n = some ws → l[pos l n]? = some (n, ws)
  | b :: r, n, ws, h => by
    unfold get at h
    unfold pos
    split at h
    · rename_i e
      cases h
      rw [if_pos e]
      simp [← e]
    · rename_i e
      rw [if_neg e]
      simpa using pos_at h
theorem pos_le : ∀ (l : List Blk) (n : Nat), pos l n ≤ l.length
  | [], _ => Nat.le_refl _
  | b :: r, n => by
    unfold pos
    split
    · simp
    · have := pos_le r n; simp; omega
theorem pos_none : ∀ {l : List Blk} {n : Nat}, get l n = none → pos l n = l.length
  | [], _, _ => rfl
  | b :: r, n, h => by
    unfold get at h
    split at h
    · cases h
    · rename_i e
      unfold pos
      rw [if_neg e, pos_none h]
      rfl
theorem pos_hit : ∀ {l : List Blk} {n i : Nat} {b : Blk}, i ≤ pos l n → l[i]? = some b → b.1 = n → pos l n = i
  | c :: r, n, 0, b, _, h, e => by
    simp at h
    subst h
    unfold pos
    rw [if_pos e]
  | c :: r, n, i + 1, b, hi, h, e => by
    unfold pos at hi ⊢
    split at hi
    · omega
    · rename_i e2
      have := pos_hit (l := r) (n := n) (i := i) (by omega) (by simpa using h) e
      rw [if_neg e2, this]
theorem pos_miss : ∀ {l : List Blk} {n i : Nat} {b : Blk}, i ≤ pos l n → l[i]? = some b → b.1 ≠ n → i + 1 ≤ pos l n
  | c :: r, n, 0, b, _, h, e => by
    simp at h
    subst h
    unfold pos
    rw [if_neg e]
    omega
  | c :: r, n, i + 1, b, hi, h, e => by
    unfold pos at hi ⊢
    split at hi
    · omega
    · rename_i e2
      rw [if_neg e2]
      have := pos_miss (l := r) (n := n) (i := i) (by omega) (by simpa using h) e
      omega
end Mm
/-- The cells of blocks that lie in a row. -/
def encB (h : Nat → Nat) : List Blk → List Value
  | [] => []
  | b :: r => ku b.1 :: sl (h b.1) b.2.length :: encB h r
theorem encB_len (h : Nat → Nat) : ∀ l : List Blk, (encB h l).length = l.length * 2
  | [] => rfl
  | _ :: r => by simp [encB, encB_len h r]; omega
theorem encB_append (h : Nat → Nat) : ∀ l m : List Blk, encB h (l ++ m) = encB h l ++ encB h m
  | [], _ => rfl
  | p :: r, m => by simp [encB, encB_append h r m]
theorem encB_at (h : Nat → Nat) : ∀ {l : List Blk} {k : Nat} {b : Blk}, l[k]? = some b → (encB h l)[2 * k]? = some (ku b.1) ∧ (encB h l)[2 * k + 1]? = some (sl (h b.1) b.2.length)
  | p :: r, 0, b, hb => by
    simp at hb
    subst hb
    exact ⟨rfl, rfl⟩
  | p :: r, k + 1, b, hb => by
    have := encB_at h (l := r) (k := k) (b := b) (by simpa using hb)
    rw [show 2 * (k + 1) = 2 * k + 1 + 1 by omega]
    simpa [encB] using this
structure Rf (B : Nat) (w : World) (x : Nat) (v : Value) (h : Nat → Nat) (S : Mem) : Prop where
  xB : B ≤ x
  own : w.heap[x]? = some (.cells #[.int .i64 (S.room : Int), .int .i64 (S.faults : Int), .int .u64 (S.last : Int), v] 38 (0, 0))
  list : w.ownsRow B 76 2 v S.L.length (encB h S.L)
  row : ∀ b ∈ S.L, B ≤ h b.1 ∧ w.heap[h b.1]? = some (.cells (wd b.2) 35 (0, 0))
  inj : ∀ b ∈ S.L, ∀ c ∈ S.L, h b.1 = h c.1 → b.1 = c.1
  good : Mm.Good S
def Gp (x : Nat) (v : Value) (h : Nat → Nat) (S : Mem) (k : Nat) : Prop := k = x ∨ v.ownBlock = some k ∨ ∃ b ∈ S.L, k = h b.1
def Rx (B : Nat) (w : World) (x : Nat) (S : Mem) (G : Nat → Prop) : Prop := ∃ v h, Rf B w x v h S ∧ G = Gp x v h S
def RTurns (u : Value) (B x : Nat) (S' : Mem) (G : Nat → Prop) (w : World) (e : Ending) (w' : World) : Prop := e = .returned u ∧ ∃ G', Rx B w' x S' G' ∧ Tn G G' w w'
theorem Rf.lt {B : Nat} {w : World} {x : Nat} {v : Value} {h : Nat → Nat} {S : Mem} (r : Rf B w x v h S) : x < w.heap.size := (Array.getElem?_eq_some_iff.1 r.own).1
theorem Rf.foot {B : Nat} {w : World} {x : Nat} {v : Value} {h : Nat → Nat} {S : Mem} (r : Rf B w x v h S) {k : Nat} (hk : Gp x v h S k) : B ≤ k ∧ k < w.heap.size := by
  rcases hk with rfl | hk | ⟨b, hb, rfl⟩
  · exact ⟨r.xB, r.lt⟩
  · exact r.list.lt k hk
  · exact ⟨(r.row b hb).1, (Array.getElem?_eq_some_iff.1 (r.row b hb).2).1⟩
theorem Rx.foot {B : Nat} {w : World} {x : Nat} {S : Mem} {G : Nat → Prop} (r : Rx B w x S G) {k : Nat} (hk : G k) : B ≤ k ∧ k < w.heap.size := by
  obtain ⟨v, h, hr, rfl⟩ := r
  exact hr.foot hk
theorem own_keep {w w' : World} {base : Nat} {e : TypeId} {size : Nat} {v : Value} {n : Nat} {xs : List Value} (h : w.ownsRow base e size v n xs) (hk : ∀ k, v.ownBlock = some k → w'.heap[k]? = w.heap[k]?) : w'.ownsRow base e size v n xs := by
  refine ⟨h.1, ?_⟩
  rcases h.2 with hn | ⟨g, cap, cur, rfl, hb, hgg, rest⟩
  · exact .inl hn
  · exact .inr ⟨g, cap, cur, rfl, hb, (hk g rfl).trans hgg, rest⟩
theorem Rf.keep {B : Nat} {w w' : World} {x : Nat} {v : Value} {h : Nat → Nat} {S : Mem} (r : Rf B w x v h S) (hk : ∀ k, Gp x v h S k → w'.heap[k]? = w.heap[k]?) : Rf B w' x v h S :=
  ⟨r.xB, (hk x (.inl rfl)).trans r.own, own_keep r.list fun k e => hk k (.inr (.inl e)), fun b hb => ⟨(r.row b hb).1, (hk _ (.inr (.inr ⟨b, hb, rfl⟩))).trans (r.row b hb).2⟩, r.inj, r.good⟩
theorem Rx.keep {B : Nat} {w w' : World} {x : Nat} {S : Mem} {G : Nat → Prop} (r : Rx B w x S G) (hk : ∀ k, G k → w'.heap[k]? = w.heap[k]?) : Rx B w' x S G := by
  obtain ⟨v, h, hr, rfl⟩ := r
  exact ⟨v, h, hr.keep hk, rfl⟩
theorem Rx.below {B C : Nat} {w w' : World} {x : Nat} {S : Mem} {G : Nat → Prop} (r : Rx B w x S G) (hb : Below C w w') (hC : w.heap.size ≤ C) : Rx B w' x S G :=
  r.keep fun k hk => hb.block k (Nat.lt_of_lt_of_le (r.foot hk).2 hC)
theorem Rf.drewN {B : Nat} {w : World} {x : Nat} {v : Value} {h : Nat → Nat} {S : Mem} (r : Rf B w x v h S) (n : Nat) : Rf B (w.drewN n) x v h S := r.keep fun _ _ => rfl
section
variable {B : Nat} {w : World} {x : Nat} {v : Value} {h : Nat → Nat} {S : Mem} (r : Rf B w x v h S)
include r
theorem Rf.c0 : w.cell? ⟨x, 0, none⟩ = some (.int .i64 (S.room : Int)) := by simp [World.cell?, r.own]
theorem Rf.c1 : w.cell? ⟨x, 1, none⟩ = some (.int .i64 (S.faults : Int)) := by simp [World.cell?, r.own]
theorem Rf.c2 : w.cell? ⟨x, 2, none⟩ = some (.int .u64 (S.last : Int)) := by simp [World.cell?, r.own]
theorem Rf.c3 : w.cell? ⟨x, 3, none⟩ = some v := by simp [World.cell?, r.own]
theorem Rf.fz (i : Nat) : w.frozen? ⟨x, i, none⟩ = false := by simp [World.frozen?, r.own]
theorem Rf.lens : ∃ a c, v = .slice a S.L.length c := by
  rcases r.list.2 with ⟨rfl, h0⟩ | ⟨g, cap, cur, rfl, _⟩
  · exact ⟨none, 0, by rw [h0]⟩
  · exact ⟨_, cap, rfl⟩
theorem Rf.at {k : Nat} {b : Blk} (hb : S.L[k]? = some b) : ∃ g c, v = .slice (some ⟨g, 0, none⟩) S.L.length c ∧ w.cell? ⟨g, k * 2, none⟩ = some (ku b.1) ∧ w.cell? ⟨g, k * 2 + 1, none⟩ = some (sl (h b.1) b.2.length) := by
  have hk := (List.getElem?_eq_some_iff.1 hb).1
  obtain ⟨e1, e2⟩ := encB_at h hb
  rcases r.list.2 with ⟨rfl, h0⟩ | ⟨g, cap, cur, rfl, _, hg, _, _, _, ht⟩
  · omega
  · refine ⟨g, cap, rfl, ?_, ?_⟩
    · rw [← ht, List.getElem?_take, if_pos (by omega)] at e1
      rw [show k * 2 = 2 * k by omega]
      simpa [World.cell?, hg] using e1
    · rw [← ht, List.getElem?_take, if_pos (by omega)] at e2
      rw [show k * 2 + 1 = 2 * k + 1 by omega]
      simpa [World.cell?, hg] using e2
theorem Rf.cellb {b : Nat} {ws : List Int} (hg : Mm.get S.L b = some ws) {i : Nat} {y : Int} (hi : ws[i]? = some y) :
    w.cell? ⟨h b, i, none⟩ = some (.int .u64 y) ∧ w.frozen? ⟨h b, i, none⟩ = false := by
  have := (r.row _ (Mm.get_some_mem hg)).2
  simp only at this
  simp [World.cell?, World.frozen?, this, wd, hi]
end
theorem used_take : ∀ (l : List Blk) (k : Nat) {b : Blk}, l[k]? = some b → Mm.used (l.take (k + 1)) = Mm.used (l.take k) + b.2.length
  | c :: r, 0, b, h => by simp at h; subst h; simp [Mm.used]
  | c :: r, k + 1, b, h => by
    have := used_take r k (by simpa using h)
    simp [Mm.used, this]; omega
theorem used_take_le : ∀ (l : List Blk) (k : Nat), Mm.used (l.take k) ≤ Mm.used l
  | [], k => by simp [Mm.used]
  | c :: r, 0 => by simp [Mm.used]
  | c :: r, k + 1 => by have := used_take_le r k; simp [Mm.used]; omega
theorem len_le_used {S : Mem} (hG : Mm.Good S) : S.L.length ≤ 65536 := by
  have h1 := hG.fits
  have h2 := hG.r2
  have : ∀ l : List Blk, (∀ b ∈ l, 1 ≤ b.2.length) → l.length ≤ Mm.used l := by
    intro l
    induction l with
    | nil => simp
    | cons b r ih =>
      intro hb
      have h1 := hb b List.mem_cons_self
      have h2 := ih fun c hc => hb c (List.mem_cons_of_mem _ hc)
      simp [Mm.used]
      omega
  have := this S.L hG.full
  omega
set_option maxRecDepth 100000 in
set_option maxHeartbeats 1000000 in
theorem rused_any {B : Nat} {w : World} {x : Nat} {S : Mem} {G : Nat → Prop} (r : Rx B w x S G) :
    Calls Try.prog 44 #[.pointer (some ⟨x, 0, none⟩)] w (Same (.int .i64 (Mm.used S.L : Int)) w) := by
  obtain ⟨v, h, r, rfl⟩ := r
  have c3 := r.c3
  obtain ⟨va, vc, rfl⟩ := r.lens
  have hlen := len_le_used r.good
  have hfit := r.good.fits
  have hr2 := r.good.r2
  have HA := Lib.hid fun (k : Nat) (b : Blk) (hb : S.L[k]? = some b) => r.at hb
  clear r
  have HL := Lib.hid (rfl : S.L.length = S.L.length)
  obtain ⟨N, hN⟩ : ∃ N, N = S.L.length := ⟨_, rfl⟩
  rw [← hN] at HA c3 hlen
  have HN := Lib.hid hN; clear hN HL
  go_enter Try.func44, Try.ntmps44
  go_wp2
  go_loop [3, 4] (fun n i => ∃ k : Nat, k ≤ N ∧ i = .int .i64 k ∧ n = .int .i64 (Mm.used (S.L.take k) : Int)) (fun _ i => N - (intOf i).toNat)
  case atStart => exact ⟨0, Nat.zero_le _, rfl, by simp [Mm.used]⟩
  case round =>
    obtain ⟨k, hk, rfl, rfl⟩ := hrel
    by_cases hlt : k < N
    · have hltZ : (k : Int) < (N : Int) := by omega
      obtain ⟨b, hb⟩ : ∃ b, S.L[k]? = some b := ⟨_, List.getElem?_eq_getElem (by rw [← HN.out]; exact hlt)⟩
      obtain ⟨g, c, e, -, c2⟩ := HA.out k b hb
      injection e with e1 e2 e3
      subst e1; subst e3
      have hu := used_take S.L k hb
      have hle := used_take_le S.L (k + 1)
      have HU := Lib.hid hu
      have hu1 : Mm.used (S.L.take k) + b.2.length ≤ 65536 := by omega
      clear hb e2 hu hle
      unfold sl at c2
      generalize b.2.length = bl at *
      generalize Mm.used (S.L.take k) = uk at *
      go_wp2
      go_round
      case rel => exact ⟨k + 1, by omega, by go_num, by rw [HU.out]; go_num⟩
      case measure => simp [intOf]; omega
    · obtain rfl : k = N := by omega
      go_wp2
      go_ret
      exact ⟨by rw [HN.out, List.take_length]; rfl, rfl⟩
/-- What Place tells. -/
def plc (l : List Blk) (n : Nat) : Int := if (Mm.get l n).isSome then (Mm.pos l n : Int) else -1
set_option maxRecDepth 100000 in
set_option maxHeartbeats 1000000 in
theorem place_pos {B : Nat} {w : World} {x : Nat} {v : Value} {h : Nat → Nat} {S : Mem} (r : Rf B w x v h S) (n : Nat) :
    Calls Try.prog 43 #[.pointer (some ⟨x, 0, none⟩), .int .u64 (n : Int)] w (Same (.int .i64 (plc S.L n)) w) := by
  have c3 := r.c3
  obtain ⟨va, vc, rfl⟩ := r.lens
  have hlen := len_le_used r.good
  have HA := Lib.hid fun (k : Nat) (b : Blk) (hb : S.L[k]? = some b) => r.at hb
  clear r
  obtain ⟨N, hN⟩ : ∃ N, N = S.L.length := ⟨_, rfl⟩
  rw [← hN] at HA c3 hlen
  have HN := Lib.hid hN; clear hN
  go_enter Try.func43, Try.ntmps43
  go_wp2
  go_loop [5] (fun i => ∃ k : Nat, k ≤ N ∧ i = .int .i64 k ∧ k ≤ Mm.pos S.L n) (fun i => N - (intOf i).toNat)
  case atStart => exact ⟨0, Nat.zero_le _, rfl, Nat.zero_le _⟩
  case round =>
    obtain ⟨k, hk, rfl, hp⟩ := hrel
    by_cases hlt : k < N
    · have hltZ : (k : Int) < (N : Int) := by omega
      obtain ⟨b, hb⟩ : ∃ b, S.L[k]? = some b := ⟨_, List.getElem?_eq_getElem (by rw [← HN.out]; exact hlt)⟩
      obtain ⟨g, c, e, c1, -⟩ := HA.out k b hb
      injection e with e1 e2 e3
      subst e1; subst e3
      clear e2
      unfold ku at c1
      have HBk := Lib.hid hb; clear hb
      by_cases hbn : b.1 = n
      · have hbB : ((b.1 : Int) == (n : Int)) = true := by simp; omega
        have HE := Lib.hid hbn; clear hbn
        go_wp2
        go_ret
        refine ⟨?_, rfl⟩
        have e1 := Mm.pos_hit hp HBk.out HE.out
        have e2 : (Mm.get S.L n).isSome = true := by
          cases hg : Mm.get S.L n with
          | some _ => rfl
          | none => exact absurd HE.out (Mm.get_none hg b (List.mem_of_getElem? HBk.out))
        unfold plc
        rw [if_pos e2, e1]
        rfl
      · have hbB : ((b.1 : Int) == (n : Int)) = false := by simp; omega
        go_wp2
        go_round
        case rel => exact ⟨k + 1, by omega, by go_num, Mm.pos_miss hp HBk.out hbn⟩
        case measure => simp [intOf]; omega
    · obtain rfl : k = N := by omega
      go_wp2
      go_ret
      refine ⟨?_, rfl⟩
      have e2 : (Mm.get S.L n).isSome = false := by
        cases hg : Mm.get S.L n with
        | none => rfl
        | some ws =>
          have h1 := Mm.pos_at hg
          have h2 := (List.getElem?_eq_some_iff.1 h1).1
          have h3 := HN.out
          omega
      unfold plc
      rw [if_neg (by simp [e2])]
      rfl
end Go.Proofs.Ythldjdkjgiebaaa
