/-
  An arena as plain data: its room, the last number, the faults, and the blocks in a list by rising numbers; what each call makes of it. Plain mathematics, no program in it. By an AI agent.
-/
namespace Go.Proofs.Ytdbolhalgbiggaa
namespace Mm
abbrev Blk := Nat × List Int
structure Mem where
  room : Nat
  last : Nat
  faults : Nat
  L : List Blk
def used : List Blk → Nat
  | [] => 0
  | b :: r => b.2.length + used r
def get : List Blk → Nat → Option (List Int)
  | [], _ => none
  | b :: r, n => if b.1 = n then some b.2 else get r n
def del : List Blk → Nat → List Blk
  | [], _ => []
  | b :: r, n => if b.1 = n then del r n else b :: del r n
def put : List Blk → Nat → Nat → Int → List Blk
  | [], _, _, _ => []
  | b :: r, n, i, v => (if b.1 = n then (b.1, b.2.set i v) else b) :: put r n i v
/-- Rising numbers, from above lo up to hi. -/
def Up (lo hi : Nat) : List Blk → Prop
  | [] => True
  | b :: r => lo < b.1 ∧ b.1 ≤ hi ∧ Up b.1 hi r
def Mem.alloc (S : Mem) (n : Nat) : Mem := { S with last := S.last + 1, L := S.L ++ [(S.last + 1, List.replicate n 0)] }
def Mem.free (S : Mem) (b : Nat) : Mem := { S with L := del S.L b }
def Mem.fault (S : Mem) : Mem := { S with faults := S.faults + 1 }
def Mem.put (S : Mem) (b i : Nat) (v : Int) : Mem := { S with L := Mm.put S.L b i v }
structure Good (S : Mem) : Prop where
  r1 : 1 ≤ S.room
  r2 : S.room ≤ 65536
  up : Up 0 S.last S.L
  fits : used S.L ≤ S.room
  full : ∀ b ∈ S.L, 1 ≤ b.2.length
theorem Up.mem : ∀ {l : List Blk} {lo hi : Nat}, Up lo hi l → ∀ b ∈ l, lo < b.1 ∧ b.1 ≤ hi
  | c :: r, lo, hi, h, b, hb => by
    rcases List.mem_cons.1 hb with rfl | hb
    · exact ⟨h.1, h.2.1⟩
    · have := Up.mem h.2.2 b hb
      have := h.1
      omega
theorem Up.lo : ∀ {l : List Blk} {lo lo' hi : Nat}, Up lo hi l → lo' ≤ lo → Up lo' hi l
  | [], _, _, _, _, _ => trivial
  | _ :: _, _, _, _, h, hl => ⟨by have := h.1; omega, h.2⟩
theorem Up.hi : ∀ {l : List Blk} {lo hi hi' : Nat}, Up lo hi l → hi ≤ hi' → Up lo hi' l
  | [], _, _, _, _, _ => trivial
  | _ :: _, _, _, _, h, hl => ⟨h.1, by have := h.2.1; omega, h.2.2.hi hl⟩
theorem get_some_mem : ∀ {l : List Blk} {n : Nat} {ws : List Int}, get l n = some ws → (n, ws) ∈ l
  | b :: r, n, ws, h => by
    unfold get at h
    split at h
    · rename_i e
      cases h
      subst e
      exact List.mem_cons_self
    · exact List.mem_cons_of_mem _ (get_some_mem h)
theorem get_none : ∀ {l : List Blk} {n : Nat}, get l n = none → ∀ b ∈ l, b.1 ≠ n
  | c :: r, n, h, b, hb => by
    unfold get at h
    split at h
    · cases h
    · rcases List.mem_cons.1 hb with rfl | hb
      · assumption
      · exact get_none h b hb
theorem get_of_mem : ∀ {l : List Blk} {lo hi : Nat}, Up lo hi l → ∀ b ∈ l, get l b.1 = some b.2
  | c :: r, lo, hi, h, b, hb => by
    unfold get
    rcases List.mem_cons.1 hb with rfl | hb
    · simp
    · have := (h.2.2.mem b hb).1
      rw [if_neg (by omega)]
      exact get_of_mem h.2.2 b hb
theorem get_none_of : ∀ {l : List Blk} {n : Nat}, (∀ b ∈ l, b.1 ≠ n) → get l n = none
  | [], _, _ => rfl
  | c :: r, n, h => by
    unfold get
    rw [if_neg (h c List.mem_cons_self)]
    exact get_none_of fun b hb => h b (List.mem_cons_of_mem _ hb)
theorem mem_del : ∀ {l : List Blk} {n : Nat} {b : Blk}, b ∈ del l n ↔ b ∈ l ∧ b.1 ≠ n
  | [], n, b => by simp [del]
  | c :: r, n, b => by
    unfold del
    split
    · rename_i e
      rw [mem_del]
      constructor
      · exact fun h => ⟨List.mem_cons_of_mem _ h.1, h.2⟩
      · rintro ⟨h1, h2⟩
        rcases List.mem_cons.1 h1 with rfl | h1
        · exact absurd e h2
        · exact ⟨h1, h2⟩
    · rename_i e
      simp only [List.mem_cons, mem_del]
      constructor
      · rintro (rfl | h)
        · exact ⟨.inl rfl, e⟩
        · exact ⟨.inr h.1, h.2⟩
      · rintro ⟨rfl | h1, h2⟩
        · exact .inl rfl
        · exact .inr ⟨h1, h2⟩
theorem Up.del : ∀ {l : List Blk} {lo hi : Nat} (n : Nat), Up lo hi l → Up lo hi (Mm.del l n)
  | [], _, _, _, _ => trivial
  | c :: r, lo, hi, n, h => by
    unfold Mm.del
    split
    · exact (h.2.2.del n).lo (Nat.le_of_lt h.1)
    · exact ⟨h.1, h.2.1, h.2.2.del n⟩
theorem used_append : ∀ l m : List Blk, used (l ++ m) = used l + used m
  | [], m => by simp [used]
  | b :: r, m => by simp [used, used_append r m]; omega
theorem used_del : ∀ {l : List Blk} {lo hi n : Nat} {ws : List Int}, Up lo hi l → get l n = some ws → used (del l n) + ws.length = used l
  | b :: r, lo, hi, n, ws, h, hg => by
    unfold get at hg
    split at hg
    · rename_i e
      cases hg
      have : del r n = r := by
        have hm := h.2.2.mem
        clear h
        induction r with
        | nil => rfl
        | cons c r ih =>
          have h0 := (hm c List.mem_cons_self).1
          unfold del
          rw [if_neg (by omega), ih fun b hb => hm b (List.mem_cons_of_mem _ hb)]
      unfold del
      rw [if_pos e, this]
      simp [used]; omega
    · rename_i e
      unfold del
      rw [if_neg e]
      have := used_del h.2.2 hg
      simp [used]; omega
theorem used_del_none : ∀ {l : List Blk} {n : Nat}, get l n = none → del l n = l
  | [], n, _ => rfl
  | b :: r, n, h => by
    unfold get at h
    split at h
    · cases h
    · rename_i e
      unfold del
      rw [if_neg e, used_del_none h]
theorem put_keys : ∀ (l : List Blk) (n i : Nat) (v : Int), (put l n i v).map (·.1) = l.map (·.1)
  | [], _, _, _ => rfl
  | b :: r, n, i, v => by
    simp only [put, List.map_cons, put_keys r n i v]
    split <;> rfl
theorem used_put : ∀ (l : List Blk) (n i : Nat) (v : Int), used (put l n i v) = used l
  | [], _, _, _ => rfl
  | b :: r, n, i, v => by
    simp only [put, used, used_put r n i v]
    split <;> simp
theorem Up.put : ∀ {l : List Blk} {lo hi : Nat} (n i : Nat) (v : Int), Up lo hi l → Up lo hi (Mm.put l n i v)
  | [], _, _, _, _, _, _ => trivial
  | b :: r, lo, hi, n, i, v, h => by
    unfold Mm.put
    split
    · exact ⟨h.1, h.2.1, h.2.2.put n i v⟩
    · exact ⟨h.1, h.2.1, h.2.2.put n i v⟩
theorem mem_put : ∀ {l : List Blk} {n i : Nat} {v : Int} {b : Blk}, b ∈ put l n i v → (b.1 ≠ n ∧ b ∈ l) ∨ (b.1 = n ∧ ∃ ws, (n, ws) ∈ l ∧ b.2 = ws.set i v)
  | c :: r, n, i, v, b, h => by
    unfold put at h
    rcases List.mem_cons.1 h with h | h
    · split at h
      · rename_i e
        subst h
        exact .inr ⟨e, c.2, by rw [← e]; exact List.mem_cons_self, rfl⟩
      · rename_i e
        subst h
        exact .inl ⟨e, List.mem_cons_self⟩
    · rcases mem_put h with ⟨h1, h2⟩ | ⟨h1, ws, h2, h3⟩
      · exact .inl ⟨h1, List.mem_cons_of_mem _ h2⟩
      · exact .inr ⟨h1, ws, List.mem_cons_of_mem _ h2, h3⟩
theorem get_put_same : ∀ {l : List Blk} {n : Nat} (i : Nat) (v : Int) {ws : List Int}, get l n = some ws → get (put l n i v) n = some (ws.set i v)
  | b :: r, n, i, v, ws, h => by
    unfold get at h
    split at h
    · rename_i e
      cases h
      simp [put, get, e]
    · rename_i e
      simp [put, get, e]
      exact get_put_same i v h
theorem get_put_none : ∀ {l : List Blk} {n : Nat} (m i : Nat) (v : Int), get l n = none → get (put l m i v) n = none
  | [], _, _, _, _, _ => rfl
  | b :: r, n, m, i, v, h => by
    unfold get at h
    split at h
    · cases h
    · rename_i e
      have := get_put_none m i v h
      by_cases em : b.1 = m <;> simp_all [put, get]
theorem get_put_other : ∀ (l : List Blk) {n m : Nat} (i : Nat) (v : Int), n ≠ m → get (put l m i v) n = get l n
  | [], _, _, _, _, _ => rfl
  | b :: r, n, m, i, v, h => by
    have := get_put_other r i v h
    by_cases em : b.1 = m
    · by_cases en : b.1 = n
      · omega
      · have e2 : ¬ m = n := by omega
        simp [put, get, em, e2, this]
    · by_cases en : b.1 = n <;> simp_all [put, get]
theorem get_append : ∀ (l m : List Blk) (n : Nat), get (l ++ m) n = (get l n).or (get m n)
  | [], _, _ => by simp [get]
  | b :: r, m, n => by
    by_cases e : b.1 = n <;> simp [get, e, get_append r m n]
theorem get_del : ∀ (l : List Blk) (n m : Nat), get (del l n) m = if m = n then none else get l m
  | [], n, m => by simp [del, get]
  | b :: r, n, m => by
    have ih := get_del r n m
    by_cases e : b.1 = n
    · rw [del, if_pos e, ih]
      by_cases e2 : m = n
      · rw [if_pos e2, if_pos e2]
      · rw [if_neg e2, if_neg e2, get, if_neg (by omega)]
    · rw [del, if_neg e, get, ih, get]
      by_cases e2 : m = n
      · rw [if_pos e2, if_pos e2, if_neg (by omega)]
      · rw [if_neg e2, if_neg e2]
theorem Up.snoc : ∀ {l : List Blk} {lo hi : Nat} (ws : List Int), Up lo hi l → lo ≤ hi → Up lo (hi + 1) (l ++ [(hi + 1, ws)])
  | [], lo, hi, ws, _, h => ⟨Nat.lt_succ_of_le h, Nat.le_refl _, trivial⟩
  | b :: r, lo, hi, ws, h, hl => ⟨h.1, by have := h.2.1; omega, h.2.2.snoc ws h.2.1⟩
theorem used_len : ∀ {l : List Blk} {n : Nat} {ws : List Int}, get l n = some ws → ws.length ≤ used l
  | b :: r, n, ws, h => by
    unfold get at h
    split at h
    · cases h; simp [used]
    · have := used_len h; simp [used]; omega
theorem Good.alloc {S : Mem} (h : Good S) {n : Nat} (h1 : 1 ≤ n) (hn : n ≤ S.room - used S.L) : Good (S.alloc n) := by
  have := h.fits
  refine ⟨h.r1, h.r2, h.up.snoc _ (Nat.zero_le _), ?_, fun b hb => ?_⟩
  · show used (S.L ++ _) ≤ S.room
    rw [used_append]; simp [used]; omega
  · rcases List.mem_append.1 hb with hb | hb
    · exact h.full b hb
    · simp at hb; subst hb; simpa using h1
theorem Good.free {S : Mem} (h : Good S) {b : Nat} {ws : List Int} (hg : get S.L b = some ws) : Good (S.free b) := by
  have := h.fits
  have h2 := used_del h.up hg
  exact ⟨h.r1, h.r2, h.up.del b, by show used (del S.L b) ≤ S.room; omega, fun c hc => h.full c (mem_del.1 hc).1⟩
theorem Good.fault {S : Mem} (h : Good S) : Good S.fault := ⟨h.r1, h.r2, h.up, h.fits, h.full⟩
theorem Good.put {S : Mem} (h : Good S) (b i : Nat) (v : Int) : Good (S.put b i v) := by
  refine ⟨h.r1, h.r2, h.up.put b i v, by show used (Mm.put S.L b i v) ≤ S.room; rw [used_put]; exact h.fits, fun c hc => ?_⟩
  rcases mem_put hc with ⟨_, h2⟩ | ⟨_, ws, h2, h3⟩
  · exact h.full c h2
  · rw [h3, List.length_set]; exact h.full _ h2
/-- What is wrong with a cell. -/
def wrong (S : Mem) (b : Nat) (i : Int) : Int :=
  match get S.L b with
  | none => 13
  | some ws => if 0 ≤ i ∧ i < ws.length then 0 else 14
theorem new_get (S : Mem) (h : Good S) : get S.L (S.last + 1) = none := get_none_of fun b hb => by have := (h.up.mem b hb).2; omega
end Mm
end Go.Proofs.Ytdbolhalgbiggaa
