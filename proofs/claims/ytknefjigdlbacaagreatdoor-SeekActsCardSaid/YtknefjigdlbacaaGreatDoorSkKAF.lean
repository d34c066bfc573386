/-
  Several texts in one: An arena as plain data: its room, the last number, the faults, and the blocks in a list by rising numbers; what each call makes of it. Plain mathematics, no program in it; How an arena lies in memory; what a change of one leaves alone; the walks of New, isMade, fault; How an act lies in memory; the walk of fieldsOf. By an AI agent.
-/
import Derived.Test.YtknefjigdlbacaaGreatDoorSkKAE
import Derived.WalkKit
import Derived.WalkSpells
import Derived.WalkLawsBesides
import Derived.WalkMore
import Derived.WalkSmall
import Derived.Below
import Derived.Lib.Hide
import Derived.IntWalk
import Derived.OwnWalk
import Derived.Laws.OwnMore
import Derived.Laws.Cover1
import Derived.Maps.AppendAt
import Derived.Maps.OwnSet
import Derived.Maps.Ext
import Derived.Test.YtknefjigdlbacaaGreatDoorSkKAA
import Derived.Laws.StructEq
namespace Go.Proofs.YtknefjigdlbacaaGreatDoor
namespace Mm
abbrev Blk := Nat × List Int
structure Mem where
  room : Nat
  last : Nat
  faults : Nat
  L : List Blk
def used : List Blk → Nat
  | [] => 0
  | b :: r => b.2.length + used r
def get : List Blk → Nat → Option (List Int)
  | [], _ => none
  | b :: r, n => if b.1 = n then some b.2 else get r n
def del : List Blk → Nat → List Blk
  | [], _ => []
  | b :: r, n => if b.1 = n then del r n else b :: del r n
def put : List Blk → Nat → Nat → Int → List Blk
  | [], _, _, _ => []
  | b :: r, n, i, v => (if b.1 = n then (b.1, b.2.set i v) else b) :: put r n i v
/-- Rising numbers, from above lo up to hi. -/
def Up (lo hi : Nat) : List Blk → Prop
  | [] => True
  | b :: r => lo < b.1 ∧ b.1 ≤ hi ∧ Up b.1 hi r
def Mem.alloc (S : Mem) (n : Nat) : Mem := { S with last := S.last + 1, L := S.L ++ [(S.last + 1, List.replicate n 0)] }
def Mem.free (S : Mem) (b : Nat) : Mem := { S with L := del S.L b }
def Mem.fault (S : Mem) : Mem := { S with faults := S.faults + 1 }
def Mem.put (S : Mem) (b i : Nat) (v : Int) : Mem := { S with L := Mm.put S.L b i v }
structure Good (S : Mem) : Prop where
  r1 : 1 ≤ S.room
  r2 : S.room ≤ 65536
  up : Up 0 S.last S.L
  fits : used S.L ≤ S.room
  full : ∀ b ∈ S.L, 1 ≤ b.2.length
theorem Up.mem : ∀ {l : List Blk} {lo hi : Nat}, Up lo hi l → ∀ b ∈ l, lo < b.1 ∧ b.1 ≤ hi
  | c :: r, lo, hi, h, b, hb => by
    rcases List.mem_cons.1 hb with rfl | hb
    · exact ⟨h.1, h.2.1⟩
    · have := Up.mem h.2.2 b hb
      have := h.1
      omega
theorem Up.lo : ∀ {l : List Blk} {lo lo' hi : Nat}, Up lo hi l → lo' ≤ lo → Up lo' hi l
  | [], _, _, _, _, _ => trivial
  | _ :: _, _, _, _, h, hl => ⟨by have := h.1; omega, h.2⟩
theorem Up.hi : ∀ {l : List Blk} {lo hi hi' : Nat}, Up lo hi l → hi ≤ hi' → Up lo hi' l
  | [], _, _, _, _, _ => trivial
  | _ :: _, _, _, _, h, hl => ⟨h.1, by have := h.2.1; omega, h.2.2.hi hl⟩
theorem get_some_mem : ∀ {l : List Blk} {n : Nat} {ws : List Int}, get l n = some ws → (n, ws) ∈ l
  | b :: r, n, ws, h => by
    unfold get at h
    split at h
    · rename_i e
      cases h
      subst e
      exact List.mem_cons_self
    · exact List.mem_cons_of_mem _ (get_some_mem h)
theorem get_none : ∀ {l : List Blk} {n : Nat}, get l n = none → ∀ b ∈ l, b.1 ≠ n
  | c :: r, n, h, b, hb => by
    unfold get at h
    split at h
    · cases h
    · rcases List.mem_cons.1 hb with rfl | hb
      · assumption
      · exact get_none h b hb
theorem get_of_mem : ∀ {l : List Blk} {lo hi : Nat}, Up lo hi l → ∀ b ∈ l, get l b.1 = some b.2
  | c :: r, lo, hi, h, b, hb => by
    unfold get
    rcases List.mem_cons.1 hb with rfl | hb
    · simp
    · have := (h.2.2.mem b hb).1
      rw [if_neg (by omega)]
      exact get_of_mem h.2.2 b hb
theorem get_none_of : ∀ {l : List Blk} {n : Nat}, (∀ b ∈ l, b.1 ≠ n) → get l n = none
  | [], _, _ => rfl
  | c :: r, n, h => by
    unfold get
    rw [if_neg (h c List.mem_cons_self)]
    exact get_none_of fun b hb => h b (List.mem_cons_of_mem _ hb)
theorem mem_del : ∀ {l : List Blk} {n : Nat} {b : Blk}, b ∈ del l n ↔ b ∈ l ∧ b.1 ≠ n
  | [], n, b => by simp [del]
  | c :: r, n, b => by
    unfold del
    split
    · rename_i e
      rw [mem_del]
      constructor
      · exact fun h => ⟨List.mem_cons_of_mem _ h.1, h.2⟩
      · rintro ⟨h1, h2⟩
        rcases List.mem_cons.1 h1 with rfl | h1
        · exact absurd e h2
        · exact ⟨h1, h2⟩
    · rename_i e
      simp only [List.mem_cons, mem_del]
      constructor
      · rintro (rfl | h)
        · exact ⟨.inl rfl, e⟩
        · exact ⟨.inr h.1, h.2⟩
      · rintro ⟨rfl | h1, h2⟩
        · exact .inl rfl
        · exact .inr ⟨h1, h2⟩
theorem Up.del : ∀ {l : List Blk} {lo hi : Nat} (n : Nat), Up lo hi l → Up lo hi (Mm.del l n)
  | [], _, _, _, _ => trivial
  | c :: r, lo, hi, n, h => by
    unfold Mm.del
    split
    · exact (h.2.2.del n).lo (Nat.le_of_lt h.1)
    · exact ⟨h.1, h.2.1, h.2.2.del n⟩
theorem used_append : ∀ l m : List Blk, used (l ++ m) = used l + used m
  | [], m => by simp [used]
  | b :: r, m => by simp [used, used_append r m]; omega
theorem used_del : ∀ {l : List Blk} {lo hi n : Nat} {ws : List Int}, Up lo hi l → get l n = some ws → used (del l n) + ws.length = used l
  | b :: r, lo, hi, n, ws, h, hg => by
    unfold get at hg
    split at hg
    · rename_i e
      cases hg
      have : del r n = r := by
        have hm := h.2.2.mem
        clear h
        induction r with
        | nil => rfl
        | cons c r ih =>
          have h0 := (hm c List.mem_cons_self).1
          unfold del
          rw [if_neg (by omega), ih fun b hb => hm b (List.mem_cons_of_mem _ hb)]
      unfold del
      rw [if_pos e, this]
      simp [used]; omega
    · rename_i e
      unfold del
      rw [if_neg e]
      have := used_del h.2.2 hg
      simp [used]; omega
theorem used_del_none : ∀ {l : List Blk} {n : Nat}, get l n = none → del l n = l
  | [], n, _ => rfl
  | b :: r, n, h => by
    unfold get at h
    split at h
    · cases h
    · rename_i e
      unfold del
      rw [if_neg e, used_del_none h]
theorem put_keys : ∀ (l : List Blk) (n i : Nat) (v : Int), (put l n i v).map (·.1) = l.map (·.1)
  | [], _, _, _ => rfl
  | b :: r, n, i, v => by
    simp only [put, List.map_cons, put_keys r n i v]
    split <;> rfl
theorem used_put : ∀ (l : List Blk) (n i : Nat) (v : Int), used (put l n i v) = used l
  | [], _, _, _ => rfl
  | b :: r, n, i, v => by
    simp only [put, used, used_put r n i v]
    split <;> simp
theorem Up.put : ∀ {l : List Blk} {lo hi : Nat} (n i : Nat) (v : Int), Up lo hi l → Up lo hi (Mm.put l n i v)
  | [], _, _, _, _, _, _ => trivial
  | b :: r, lo, hi, n, i, v, h => by
    unfold Mm.put
    split
    · exact ⟨h.1, h.2.1, h.2.2.put n i v⟩
    · exact ⟨h.1, h.2.1, h.2.2.put n i v⟩
theorem mem_put : ∀ {l : List Blk} {n i : Nat} {v : Int} {b : Blk}, b ∈ put l n i v → (b.1 ≠ n ∧ b ∈ l) ∨ (b.1 = n ∧ ∃ ws, (n, ws) ∈ l ∧ b.2 = ws.set i v)
  | c :: r, n, i, v, b, h => by
    unfold put at h
    rcases List.mem_cons.1 h with h | h
    · split at h
      · rename_i e
        subst h
        exact .inr ⟨e, c.2, by rw [← e]; exact List.mem_cons_self, rfl⟩
      · rename_i e
        subst h
        exact .inl ⟨e, List.mem_cons_self⟩
    · rcases mem_put h with ⟨h1, h2⟩ | ⟨h1, ws, h2, h3⟩
      · exact .inl ⟨h1, List.mem_cons_of_mem _ h2⟩
      · exact .inr ⟨h1, ws, List.mem_cons_of_mem _ h2, h3⟩
theorem get_put_same : ∀ {l : List Blk} {n : Nat} (i : Nat) (v : Int) {ws : List Int}, get l n = some ws → get (put l n i v) n = some (ws.set i v)
  | b :: r, n, i, v, ws, h => by
    unfold get at h
    split at h
    · rename_i e
      cases h
      simp [put, get, e]
    · rename_i e
      simp [put, get, e]
      exact get_put_same i v h
theorem get_put_none : ∀ {l : List Blk} {n : Nat} (m i : Nat) (v : Int), get l n = none → get (put l m i v) n = none
  | [], _, _, _, _, _ => rfl
  | b :: r, n, m, i, v, h => by
    unfold get at h
    split at h
    · cases h
    · rename_i e
      have := get_put_none m i v h
      by_cases em : b.1 = m <;> simp_all [put, get]
theorem get_put_other : ∀ (l : List Blk) {n m : Nat} (i : Nat) (v : Int), n ≠ m → get (put l m i v) n = get l n
  | [], _, _, _, _, _ => rfl
  | b :: r, n, m, i, v, h => by
    have := get_put_other r i v h
    by_cases em : b.1 = m
    · by_cases en : b.1 = n
      · omega
      · have e2 : ¬ m = n := by omega
        simp [put, get, em, e2, this]
    · by_cases en : b.1 = n <;> simp_all [put, get]
theorem get_append : ∀ (l m : List Blk) (n : Nat), get (l ++ m) n = (get l n).or (get m n)
  | [], _, _ => by simp [get]
  | b :: r, m, n => by
    by_cases e : b.1 = n <;> simp [get, e, get_append r m n]
theorem get_del : ∀ (l : List Blk) (n m : Nat), get (del l n) m = if m = n then none else get l m
  | [], n, m => by simp [del, get]
  | b :: r, n, m => by
    have ih := get_del r n m
    by_cases e : b.1 = n
    · rw [del, if_pos e, ih]
      by_cases e2 : m = n
      · rw [if_pos e2, if_pos e2]
      · rw [if_neg e2, if_neg e2, get, if_neg (by omega)]
    · rw [del, if_neg e, get, ih, get]
      by_cases e2 : m = n
      · rw [if_pos e2, if_pos e2, if_neg (by omega)]
      · rw [if_neg e2, if_neg e2]
theorem Up.snoc : ∀ {l : List Blk} {lo hi : Nat} (ws : List Int), Up lo hi l → lo ≤ hi → Up lo (hi + 1) (l ++ [(hi + 1, ws)])
  | [], lo, hi, ws, _, h => ⟨Nat.lt_succ_of_le h, Nat.le_refl _, trivial⟩
  | b :: r, lo, hi, ws, h, hl => ⟨h.1, by have := h.2.1; omega, h.2.2.snoc ws h.2.1⟩
theorem used_len : ∀ {l : List Blk} {n : Nat} {ws : List Int}, get l n = some ws → ws.length ≤ used l
  | b :: r, n, ws, h => by
    unfold get at h
    split at h
    · cases h; simp [used]
    · have := used_len h; simp [used]; omega
theorem Good.alloc {S : Mem} (h : Good S) {n : Nat} (h1 : 1 ≤ n) (hn : n ≤ S.room - used S.L) : Good (S.alloc n) := by
  have := h.fits
  refine ⟨h.r1, h.r2, h.up.snoc _ (Nat.zero_le _), ?_, fun b hb => ?_⟩
  · show used (S.L ++ _) ≤ S.room
    rw [used_append]; simp [used]; omega
  · rcases List.mem_append.1 hb with hb | hb
    · exact h.full b hb
    · simp at hb; subst hb; simpa using h1
theorem Good.free {S : Mem} (h : Good S) {b : Nat} {ws : List Int} (hg : get S.L b = some ws) : Good (S.free b) := by
  have := h.fits
  have h2 := used_del h.up hg
  exact ⟨h.r1, h.r2, h.up.del b, by show used (del S.L b) ≤ S.room; omega, fun c hc => h.full c (mem_del.1 hc).1⟩
theorem Good.fault {S : Mem} (h : Good S) : Good S.fault := ⟨h.r1, h.r2, h.up, h.fits, h.full⟩
theorem Good.put {S : Mem} (h : Good S) (b i : Nat) (v : Int) : Good (S.put b i v) := by
  refine ⟨h.r1, h.r2, h.up.put b i v, by show used (Mm.put S.L b i v) ≤ S.room; rw [used_put]; exact h.fits, fun c hc => ?_⟩
  rcases mem_put hc with ⟨_, h2⟩ | ⟨_, ws, h2, h3⟩
  · exact h.full c h2
  · rw [h3, List.length_set]; exact h.full _ h2
/-- What is wrong with a cell. -/
def wrong (S : Mem) (b : Nat) (i : Int) : Int :=
  match get S.L b with
  | none => 13
  | some ws => if 0 ≤ i ∧ i < ws.length then 0 else 14
theorem new_get (S : Mem) (h : Good S) : get S.L (S.last + 1) = none := get_none_of fun b hb => by have := (h.up.mem b hb).2; omega
end Mm
end Go.Proofs.YtknefjigdlbacaaGreatDoor
set_option linter.unusedSimpArgs false
namespace Go.Proofs.YtknefjigdlbacaaGreatDoor
open Go.RowKit Go.Maps
open Mm (Mem Blk)
/-- An element of the map is read as the value that it is. -/
def hv (v : Value) : Option (DataW Value × List MemPlace) := some (.held v, [])
/-- The key of a number. -/
def ky (n : Nat) : Lit := .int .u64 n
/-- The slice that a block's cells are. -/
def sl (g n : Nat) : Value := .slice (some ⟨g, 0, none⟩) n n
/-- The same, with what room it may have. -/
def sv (g n c : Nat) : Value := .slice (some ⟨g, 0, none⟩) n c
/-- The cells of words. -/
def wd (ws : List Int) : Array Value := (ws.map (Value.int .u64)).toArray
theorem law : Keyed Tryz.prog 22 := int_keyed Tryz.underlying22
theorem wf_u64 {n : Nat} (h : n < 18446744073709551616) : (Lit.int .u64 (n : Int)).wf = true := WalkArith.wf_u64 (by omega)
theorem key_u64 {n : Nat} (h : n < 18446744073709551616) : keyOf Tryz.prog 22 (.int .u64 (n : Int)) = some (ky n) := keyOf_int_mk Tryz.underlying22 (wf_u64 h)
theorem zeroS (w : World) : (zeroValue 29).run Tryz.prog w = .ok (.slice none 0 0) w := by kernel_rfl
/-- A block of memory: words, and what is behind them. -/
def Wd (w : World) (k : Nat) (ws : List Int) : Prop := ∃ tl : Array Value, w.heap[k]? = some (.cells (wd ws ++ tl) 22 (0, 0))
theorem Wd.keep {w w' : World} {k : Nat} {ws : List Int} (h : Wd w k ws) (e : w'.heap[k]? = w.heap[k]?) : Wd w' k ws := h.elim fun tl h => ⟨tl, e.trans h⟩
theorem Wd.lt {w : World} {k : Nat} {ws : List Int} (h : Wd w k ws) : k < w.heap.size := h.elim fun _ h => (Array.getElem?_eq_some_iff.1 h).1
theorem Wd.of {w : World} {k : Nat} {ws : List Int} (h : w.heap[k]? = some (.cells (wd ws) 22 (0, 0))) : Wd w k ws := ⟨#[], by rw [h, Array.append_empty]⟩
/-- What the map holds: just the blocks, each by its number. -/
structure Holds8 (D : DataW Value) (g : Nat → Nat) (l : List Blk) : Prop where
  has : ∀ n : Nat, Maps.has D (ky n) = (Mm.get l n).isSome
  at_ : ∀ (n : Nat) (ws : List Int), Mm.get l n = some ws → ∃ c, D.atKey (ky n) (.held (.slice none 0 0)) = .held (sv (g n) ws.length c)
structure Ar (B : Nat) (w : World) (p m : Nat) (g : Nat → Nat) (S : Mem) : Prop where
  pB : B ≤ p
  mB : B ≤ m
  own : w.heap[p]? = some (.cells #[.int .i64 (S.room : Int), .int .i64 (Mm.used S.L : Int), .int .u64 (S.last : Int), .int .i64 (S.faults : Int), .map (some m)] 112 (0, 0))
  map : ∃ n D, n ≤ S.last ∧ w.ownsMap Tryz.prog 22 hv m n D ∧ Holds8 D g S.L
  row : ∀ b ∈ S.L, B ≤ g b.1 ∧ Wd w (g b.1) b.2
  inj : ∀ b ∈ S.L, ∀ c ∈ S.L, g b.1 = g c.1 → b.1 = c.1
  good : Mm.Good S
/-- The blocks of memory that an arena takes. -/
def Fp (p m : Nat) (g : Nat → Nat) (S : Mem) (k : Nat) : Prop := k = p ∨ k = m ∨ ∃ b ∈ S.L, k = g b.1
def Ax (B : Nat) (w : World) (p : Nat) (S : Mem) (F : Nat → Prop) : Prop := ∃ m g, Ar B w p m g S ∧ F = Fp p m g S
/-- What a change of the blocks of F leaves alone. -/
structure Tn (F F' : Nat → Prop) (w w' : World) : Prop where
  os : w'.os = w.os
  tape : w'.tape = w.tape
  output : w'.output = w.output
  size : w.heap.size ≤ w'.heap.size
  block : ∀ k, k < w.heap.size → ¬ F k → w'.heap[k]? = w.heap[k]?
  foot : ∀ k, F' k → F k ∨ w.heap.size ≤ k
def Turns (v : Value) (B p : Nat) (S' : Mem) (F : Nat → Prop) (w : World) (e : Ending) (w' : World) : Prop := e = .returned v ∧ ∃ F', Ax B w' p S' F' ∧ Tn F F' w w'
theorem Ar.lt {B : Nat} {w : World} {p m : Nat} {g : Nat → Nat} {S : Mem} (h : Ar B w p m g S) : p < w.heap.size := (Array.getElem?_eq_some_iff.1 h.own).1
theorem Ar.ltm {B : Nat} {w : World} {p m : Nat} {g : Nat → Nat} {S : Mem} (h : Ar B w p m g S) : m < w.heap.size := by
  obtain ⟨n, D, _, ho, _⟩ := h.map
  exact ho.lt
theorem Ar.ltb {B : Nat} {w : World} {p m : Nat} {g : Nat → Nat} {S : Mem} (h : Ar B w p m g S) : ∀ b ∈ S.L, g b.1 < w.heap.size := fun b hb => (h.row b hb).2.lt
theorem Ar.foot {B : Nat} {w : World} {p m : Nat} {g : Nat → Nat} {S : Mem} (h : Ar B w p m g S) {k : Nat} (hk : Fp p m g S k) : B ≤ k ∧ k < w.heap.size := by
  rcases hk with rfl | rfl | ⟨b, hb, rfl⟩
  · exact ⟨h.pB, h.lt⟩
  · exact ⟨h.mB, h.ltm⟩
  · exact ⟨(h.row b hb).1, h.ltb b hb⟩
theorem Ax.foot {B : Nat} {w : World} {p : Nat} {S : Mem} {F : Nat → Prop} (h : Ax B w p S F) {k : Nat} (hk : F k) : B ≤ k ∧ k < w.heap.size := by
  obtain ⟨m, g, ha, rfl⟩ := h
  exact ha.foot hk
theorem Ax.good {B : Nat} {w : World} {p : Nat} {S : Mem} {F : Nat → Prop} (h : Ax B w p S F) : Mm.Good S := by
  obtain ⟨m, g, ha, rfl⟩ := h
  exact ha.good
theorem map_keep {w w' : World} {m n : Nat} {D : DataW Value} (h : w.ownsMap Tryz.prog 22 hv m n D) (hk : w'.heap[m]? = w.heap[m]?) : w'.ownsMap Tryz.prog 22 hv m n D := by
  obtain ⟨es, c, hb, r⟩ := h
  exact ⟨es, c, hk.trans hb, r⟩
/-- An arena outlives what leaves its blocks alone. -/
theorem Ar.keep {B : Nat} {w w' : World} {p m : Nat} {g : Nat → Nat} {S : Mem} (h : Ar B w p m g S) (hk : ∀ k, Fp p m g S k → w'.heap[k]? = w.heap[k]?) : Ar B w' p m g S := by
  refine ⟨h.pB, h.mB, (hk p (.inl rfl)).trans h.own, ?_, fun b hb => ⟨(h.row b hb).1, (h.row b hb).2.keep (hk _ (.inr (.inr ⟨b, hb, rfl⟩)))⟩, h.inj, h.good⟩
  obtain ⟨n, D, hn, ho, hh⟩ := h.map
  exact ⟨n, D, hn, map_keep ho (hk m (.inr (.inl rfl))), hh⟩
theorem Ax.keep {B : Nat} {w w' : World} {p : Nat} {S : Mem} {F : Nat → Prop} (h : Ax B w p S F) (hk : ∀ k, F k → w'.heap[k]? = w.heap[k]?) : Ax B w' p S F := by
  obtain ⟨m, g, ha, rfl⟩ := h
  exact ⟨m, g, ha.keep hk, rfl⟩
theorem Ax.below {B C : Nat} {w w' : World} {p : Nat} {S : Mem} {F : Nat → Prop} (h : Ax B w p S F) (hb : Below C w w') (hC : w.heap.size ≤ C) : Ax B w' p S F :=
  h.keep fun k hk => hb.block k (Nat.lt_of_lt_of_le (h.foot hk).2 hC)
theorem Ax.mono {B C : Nat} {w : World} {p : Nat} {S : Mem} {F : Nat → Prop} (h : Ax B w p S F) (hb : C ≤ B) : Ax C w p S F := by
  obtain ⟨m, g, ha, rfl⟩ := h
  exact ⟨m, g, ⟨Nat.le_trans hb ha.pB, Nat.le_trans hb ha.mB, ha.own, ha.map, fun b hb' => ⟨Nat.le_trans hb (ha.row b hb').1, (ha.row b hb').2⟩, ha.inj, ha.good⟩, rfl⟩
theorem Tn.of_below {F : Nat → Prop} {w w' : World} (h : Below w.heap.size w w') : Tn F F w w' :=
  ⟨h.os, h.tape, h.output, h.size, fun k hk _ => h.block k hk, fun _ hk => .inl hk⟩
theorem Tn.refl (F : Nat → Prop) (w : World) : Tn F F w w := Tn.of_below (Below.refl _ _)
theorem Tn.trans {F F' F'' : Nat → Prop} {w w' w'' : World} (h : Tn F F' w w') (h' : Tn F' F'' w' w'') : Tn F F'' w w'' :=
  ⟨h'.os.trans h.os, h'.tape.trans h.tape, h'.output.trans h.output, Nat.le_trans h.size h'.size, fun k hk hF => (h'.block k (Nat.lt_of_lt_of_le hk h.size) (fun e => (h.foot k e).elim hF (fun e2 => by omega))).trans (h.block k hk hF), fun k hk => by
    rcases h'.foot k hk with h1 | h1
    · exact h.foot k h1
    · exact .inr (Nat.le_trans h.size h1)⟩
theorem Tn.below {F F' : Nat → Prop} {w w' : World} {B : Nat} (h : Tn F F' w w') (hF : ∀ k, F k → B ≤ k) (hB : B ≤ w.heap.size) : Below B w w' :=
  ⟨h.os, h.tape, h.output, h.size, fun k hk => h.block k (by omega) (fun e => by have := hF k e; omega)⟩
/-- A row apart from F outlives a change of F, and stays apart. -/
theorem Tn.row {F F' : Nat → Prop} {w w' : World} (h : Tn F F' w w') {B n sz : Nat} {e : TypeId} {v : Value} {xs : List Value} (hr : w.ownsRow B e sz v n xs) (ha : ∀ k, v.ownBlock = some k → ¬ F k) :
    w'.ownsRow B e sz v n xs ∧ ∀ k, v.ownBlock = some k → ¬ F' k := by
  refine ⟨⟨hr.1, ?_⟩, fun k hk e => (h.foot k e).elim (ha k hk) (fun e2 => by have := (hr.lt k hk).2; omega)⟩
  rcases hr.2 with hn | ⟨g, cap, cur, rfl, hb, hgg, rest⟩
  · exact .inl hn
  · exact .inr ⟨g, cap, cur, rfl, hb, (h.block g (hr.lt g rfl).2 (ha g rfl)).trans hgg, rest⟩
/-- Another arena, apart from this one. -/
theorem Tn.other {F F' G : Nat → Prop} {w w' : World} (h : Tn F F' w w') {B p : Nat} {S : Mem} (ho : Ax B w p S G) (ha : ∀ k, G k → ¬ F k) : Ax B w' p S G ∧ ∀ k, G k → ¬ F' k :=
  ⟨ho.keep fun k hk => h.block k (ho.foot hk).2 (ha k hk), fun k hk e => (h.foot k e).elim (ha k hk) (fun e2 => by have := (ho.foot hk).2; omega)⟩
set_option maxHeartbeats 1000000 in
theorem made_any (p : Nat) (c : Int) (b : Bool) (hb : decide (0 < c) = b) (w : World) (h : w.cell? ⟨p, 0, none⟩ = some (.int .i64 c)) : Calls Tryz.prog 68 #[.pointer (some ⟨p, 0, none⟩)] w (Same (.bool b) w) := by
  subst hb
  go_enter Tryz.func68, Tryz.ntmps68
  go_wp2
  all_goals go_ret
  all_goals exact ⟨by simp_all, rfl⟩
set_option maxHeartbeats 1000000 in
theorem made_nil (w : World) : Calls Tryz.prog 68 #[.pointer none] w (Same (.bool false) w) := by
  go_enter Tryz.func68, Tryz.ntmps68
  go_wp2
  go_ret
  exact ⟨rfl, rfl⟩
set_option maxHeartbeats 1000000 in
theorem new_any (n : Nat) (h1 : 1 ≤ n) (h2 : n ≤ 65536) (w : World) : Calls Tryz.prog 57 #[.int .i64 (n : Int)] w fun e w' => e = .returned (.pointer (some ⟨w.heap.size + 1, 0, none⟩)) ∧
    (w.alloc (.map #[] 0)).alloc (.cells #[.int .i64 (n : Int), .int .i64 0, .int .u64 0, .int .i64 0, .map (some w.heap.size)] 112) = w' := by
  have hmm := @run_makeMap Tryz.prog
  go_enter Tryz.func57, Tryz.ntmps57
  go_wp2
  go_ret
  exact ⟨rfl, rfl⟩
set_option maxHeartbeats 1000000 in
theorem new_none (n : Int) (h : n < 1 ∨ 65536 < n) (w : World) : Calls Tryz.prog 57 #[.int .i64 n] w (Same (.pointer none) w) := by
  rcases h with h | h
  · go_enter Tryz.func57, Tryz.ntmps57
    go_wp2
    go_ret
    exact ⟨rfl, rfl⟩
  · have h' : ¬ n < 1 := by omega
    go_enter Tryz.func57, Tryz.ntmps57
    go_wp2
    go_ret
    exact ⟨rfl, rfl⟩
end Go.Proofs.YtknefjigdlbacaaGreatDoor
set_option linter.unusedSimpArgs false
namespace Go.Proofs.YtknefjigdlbacaaGreatDoor
open Go.RowKit
open Ac (A)
/-- The value of an act. -/
abbrev av (x : A) : Value := .agg #[.int .i64 x.k, .int .u64 x.b, .int .i64 x.c, .int .u64 x.o, .int .u64 x.n]
/-- The world with an act's box. -/
abbrev boxed (w : World) (x : A) : World := w.alloc (.cells #[.int .i64 x.k, .int .u64 x.b, .int .i64 x.c, .int .u64 x.o, .int .u64 x.n] 35)
theorem boxed_below (w : World) (x : A) : Below w.heap.size w (boxed w x) := (Below.refl _ _).alloc (Nat.le_refl _) _
/-- The cells of a box, in a world behind it. -/
theorem boxed_cells {w w' : World} {x : A} (h : Below (boxed w x).heap.size (boxed w x) w') : w'.cell? ⟨w.heap.size, 0, none⟩ = some (.int .i64 x.k) ∧ w'.cell? ⟨w.heap.size, 1, none⟩ = some (.int .u64 x.b) ∧ w'.cell? ⟨w.heap.size, 2, none⟩ = some (.int .i64 x.c) ∧ w'.cell? ⟨w.heap.size, 3, none⟩ = some (.int .u64 x.o) ∧ w'.cell? ⟨w.heap.size, 4, none⟩ = some (.int .u64 x.n) := by
  have hs : w.heap.size < (boxed w x).heap.size := by simp
  refine ⟨?_, ?_, ?_, ?_, ?_⟩ <;> rw [h.cell hs, World.cell?_alloc_new] <;> rfl
set_option maxRecDepth 100000 in
set_option maxHeartbeats 4000000 in
theorem fields_no (k : Int) (h : Ac.known k = false) (w : World) : Calls Tryz.prog 143 #[.int .i64 k] w (Gives (.tuple #[.agg #[.bool false, .bool false, .bool false, .bool false], .bool false]) w) := by
  have hk : ∀ n : Int, 0 ≤ n → n ≤ 6 → k ≠ n := fun n h0 h6 e => by subst e; simp [Ac.known, h0, h6] at h
  have h0 : (k == 0) = false := by simpa using hk 0 (by omega) (by omega)
  have h1 : (k == 1) = false := by simpa using hk 1 (by omega) (by omega)
  have h2 : (k == 2) = false := by simpa using hk 2 (by omega) (by omega)
  have h3 : (k == 3) = false := by simpa using hk 3 (by omega) (by omega)
  have h4 : (k == 4) = false := by simpa using hk 4 (by omega) (by omega)
  have h5 : (k == 5) = false := by simpa using hk 5 (by omega) (by omega)
  have h6 : (k == 6) = false := by simpa using hk 6 (by omega) (by omega)
  clear hk h
  go_enter Tryz.func143, Tryz.ntmps143
  go_wp2
  exact bodyPost_ret (v := .tuple #[.agg #[.bool false, .bool false, .bool false, .bool false], .bool false]) (by simp [results, Tryz.results143, go_sem]) rfl ⟨rfl, ((Below.refl _ _).alloc (Nat.le_refl _) _).alloc (by simp) _⟩
set_option maxRecDepth 100000 in
set_option maxHeartbeats 4000000 in
theorem fields_0 (w : World) : Calls Tryz.prog 143 #[.int .i64 0] w (Gives (.tuple #[.agg #[.bool false, .bool false, .bool false, .bool false], .bool true]) w) := by
  go_enter Tryz.func143, Tryz.ntmps143
  go_wp2
  exact bodyPost_ret (v := .tuple #[.agg #[.bool false, .bool false, .bool false, .bool false], .bool true]) (by simp [results, Tryz.results143, go_sem]) rfl ⟨rfl, ((Below.refl _ _).alloc (Nat.le_refl _) _).alloc (by simp) _⟩
set_option maxRecDepth 100000 in
set_option maxHeartbeats 4000000 in
theorem fields_1 (w : World) : Calls Tryz.prog 143 #[.int .i64 1] w (Gives (.tuple #[.agg #[.bool true, .bool true, .bool false, .bool false], .bool true]) w) := by
  go_enter Tryz.func143, Tryz.ntmps143
  go_wp2
  exact bodyPost_ret (v := .tuple #[.agg #[.bool true, .bool true, .bool false, .bool false], .bool true]) (by simp [results, Tryz.results143, go_sem]) rfl ⟨rfl, ((Below.refl _ _).alloc (Nat.le_refl _) _).alloc (by simp) _⟩
set_option maxRecDepth 100000 in
set_option maxHeartbeats 4000000 in
theorem fields_2 (w : World) : Calls Tryz.prog 143 #[.int .i64 2] w (Gives (.tuple #[.agg #[.bool true, .bool true, .bool false, .bool true], .bool true]) w) := by
  go_enter Tryz.func143, Tryz.ntmps143
  go_wp2
  exact bodyPost_ret (v := .tuple #[.agg #[.bool true, .bool true, .bool false, .bool true], .bool true]) (by simp [results, Tryz.results143, go_sem]) rfl ⟨rfl, ((Below.refl _ _).alloc (Nat.le_refl _) _).alloc (by simp) _⟩
set_option maxRecDepth 100000 in
set_option maxHeartbeats 4000000 in
theorem fields_3 (w : World) : Calls Tryz.prog 143 #[.int .i64 3] w (Gives (.tuple #[.agg #[.bool true, .bool true, .bool true, .bool true], .bool true]) w) := by
  go_enter Tryz.func143, Tryz.ntmps143
  go_wp2
  exact bodyPost_ret (v := .tuple #[.agg #[.bool true, .bool true, .bool true, .bool true], .bool true]) (by simp [results, Tryz.results143, go_sem]) rfl ⟨rfl, ((Below.refl _ _).alloc (Nat.le_refl _) _).alloc (by simp) _⟩
set_option maxRecDepth 100000 in
set_option maxHeartbeats 4000000 in
theorem fields_4 (w : World) : Calls Tryz.prog 143 #[.int .i64 4] w (Gives (.tuple #[.agg #[.bool true, .bool true, .bool false, .bool true], .bool true]) w) := by
  go_enter Tryz.func143, Tryz.ntmps143
  go_wp2
  exact bodyPost_ret (v := .tuple #[.agg #[.bool true, .bool true, .bool false, .bool true], .bool true]) (by simp [results, Tryz.results143, go_sem]) rfl ⟨rfl, ((Below.refl _ _).alloc (Nat.le_refl _) _).alloc (by simp) _⟩
set_option maxRecDepth 100000 in
set_option maxHeartbeats 4000000 in
theorem fields_5 (w : World) : Calls Tryz.prog 143 #[.int .i64 5] w (Gives (.tuple #[.agg #[.bool false, .bool true, .bool false, .bool false], .bool true]) w) := by
  go_enter Tryz.func143, Tryz.ntmps143
  go_wp2
  exact bodyPost_ret (v := .tuple #[.agg #[.bool false, .bool true, .bool false, .bool false], .bool true]) (by simp [results, Tryz.results143, go_sem]) rfl ⟨rfl, ((Below.refl _ _).alloc (Nat.le_refl _) _).alloc (by simp) _⟩
set_option maxRecDepth 100000 in
set_option maxHeartbeats 4000000 in
theorem fields_6 (w : World) : Calls Tryz.prog 143 #[.int .i64 6] w (Gives (.tuple #[.agg #[.bool true, .bool false, .bool false, .bool false], .bool true]) w) := by
  go_enter Tryz.func143, Tryz.ntmps143
  go_wp2
  exact bodyPost_ret (v := .tuple #[.agg #[.bool true, .bool false, .bool false, .bool false], .bool true]) (by simp [results, Tryz.results143, go_sem]) rfl ⟨rfl, ((Below.refl _ _).alloc (Nat.le_refl _) _).alloc (by simp) _⟩
/-- ████ fieldsOf. ████ -/
theorem fields_any (k : Int) (w : World) : Calls Tryz.prog 143 #[.int .i64 k] w (Gives (.tuple #[.agg #[.bool (Ac.fb k), .bool (Ac.fc k), .bool (Ac.fo k), .bool (Ac.fn k)], .bool (Ac.known k)]) w) := by
  cases h : Ac.known k with
  | false =>
    have hk : ∀ n : Int, 0 ≤ n → n ≤ 6 → k ≠ n := fun n h0 h6 e => by subst e; simp [Ac.known, h0, h6] at h
    have e0 : Ac.fb k = false := by simp [Ac.fb]; exact ⟨⟨⟨⟨hk 1 (by omega) (by omega), hk 2 (by omega) (by omega)⟩, hk 3 (by omega) (by omega)⟩, hk 4 (by omega) (by omega)⟩, hk 6 (by omega) (by omega)⟩
    have e1 : Ac.fc k = false := by simp [Ac.fc]; simp [Ac.known] at h; omega
    have e2 : Ac.fo k = false := by simp [Ac.fo]; exact hk 3 (by omega) (by omega)
    have e3 : Ac.fn k = false := by simp [Ac.fn]; exact ⟨⟨hk 2 (by omega) (by omega), hk 3 (by omega) (by omega)⟩, hk 4 (by omega) (by omega)⟩
    rw [e0, e1, e2, e3]
    exact fields_no k h w
  | true =>
    rcases Ac.kinds h with rfl | rfl | rfl | rfl | rfl | rfl | rfl
    · exact fields_0 w
    · exact fields_1 w
    · exact fields_2 w
    · exact fields_3 w
    · exact fields_4 w
    · exact fields_5 w
    · exact fields_6 w
end Go.Proofs.YtknefjigdlbacaaGreatDoor
