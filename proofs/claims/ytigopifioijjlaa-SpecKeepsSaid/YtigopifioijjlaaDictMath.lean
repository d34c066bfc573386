/-
  The plain mathematics of maps in order: lists of pairs by rising keys. No program in it. By an AI agent.
-/
import Derived.Tactics
import Derived.KernelRfl
import Derived.Laws.Strings
namespace Go.Proofs.Ytigopifioijjlaa.Dc
/-- A key and its value. -/
abbrev Pr := ByteArray × ByteArray
/-- Is a ahead of b? -/
def lt (a b : ByteArray) : Bool := Op.bytesLess a.toList b.toList
/-- Are two keys one? -/
def ke (a b : ByteArray) : Bool := a.toList == b.toList
theorem bl_irrefl : ∀ x : List UInt8, Op.bytesLess x x = false
  | [] => rfl
  | a :: x => by simp [Op.bytesLess, bl_irrefl x, UInt8.lt_irrefl]
theorem bl_trans : ∀ x y z : List UInt8, Op.bytesLess x y = true → Op.bytesLess y z = true → Op.bytesLess x z = true
  | _, [], _, h, _ => by simp [Op.bytesLess] at h
  | _, _ :: _, [], _, h => by simp [Op.bytesLess] at h
  | [], _ :: _, _ :: _, _, _ => by simp [Op.bytesLess]
  | a :: x, b :: y, c :: z, h1, h2 => by
    simp only [Op.bytesLess, Bool.or_eq_true, decide_eq_true_eq, Bool.and_eq_true, beq_iff_eq] at h1 h2 ⊢
    rcases h1 with h1 | ⟨rfl, h1⟩
    · rcases h2 with h2 | ⟨rfl, h2⟩
      · exact .inl (UInt8.lt_trans h1 h2)
      · exact .inl h1
    · rcases h2 with h2 | ⟨rfl, h2⟩
      · exact .inl h2
      · exact .inr ⟨rfl, bl_trans x y z h1 h2⟩
theorem bl_total : ∀ x y : List UInt8, Op.bytesLess x y = false → Op.bytesLess y x = false → x = y
  | [], [], _, _ => rfl
  | [], _ :: _, h, _ => by simp [Op.bytesLess] at h
  | _ :: _, [], _, h => by simp [Op.bytesLess] at h
  | a :: x, b :: y, h1, h2 => by
    simp only [Op.bytesLess, Bool.or_eq_false_iff, decide_eq_false_iff_not, Bool.and_eq_false_iff] at h1 h2
    have hab : a = b := UInt8.le_antisymm (UInt8.not_lt.1 h2.1) (UInt8.not_lt.1 h1.1)
    subst hab
    have e1 : Op.bytesLess x y = false := by rcases h1.2 with h | h; · simp at h
                                             exact h
    have e2 : Op.bytesLess y x = false := by rcases h2.2 with h | h; · simp at h
                                             exact h
    rw [bl_total x y e1 e2]
theorem toList_inj {a b : ByteArray} (h : a.toList = b.toList) : a = b := by
  rw [ByteArray.toList_eq, ByteArray.toList_eq] at h
  exact ByteArray.ext (Array.toList_inj.1 h)
theorem ke_iff {a b : ByteArray} : ke a b = true ↔ a = b := by
  unfold ke
  rw [beq_iff_eq]
  exact ⟨toList_inj, fun h => by rw [h]⟩
theorem ke_refl (a : ByteArray) : ke a a = true := ke_iff.2 rfl
theorem ke_comm (a b : ByteArray) : ke a b = ke b a := by
  cases h : ke a b
  · cases h' : ke b a
    · rfl
    · rw [ke_iff] at h'; subst h'; rw [ke_refl] at h; cases h
  · rw [ke_iff] at h; subst h; rw [ke_refl]
theorem lt_irrefl (a : ByteArray) : lt a a = false := bl_irrefl _
theorem lt_trans {a b c : ByteArray} (h : lt a b = true) (k : lt b c = true) : lt a c = true := bl_trans _ _ _ h k
theorem lt_asymm {a b : ByteArray} (h : lt a b = true) : lt b a = false := by
  cases k : lt b a
  · rfl
  · have := lt_trans h k; rw [lt_irrefl] at this; cases this
theorem lt_ne {a b : ByteArray} (h : lt a b = true) : ke a b = false := by
  cases k : ke a b
  · rfl
  · rw [ke_iff] at k; subst k; rw [lt_irrefl] at h; cases h
theorem gt_ne {a b : ByteArray} (h : lt a b = true) : ke b a = false := by rw [ke_comm]; exact lt_ne h
theorem lt_total {a b : ByteArray} (h : lt a b = false) (k : ke a b = false) : lt b a = true := by
  cases h' : lt b a
  · have := toList_inj (bl_total _ _ h h'); subst this; rw [ke_refl] at k; cases k
  · rfl
/-- Is the pair's key behind k? -/
def gr (k : ByteArray) (p : Pr) : Bool := !(lt p.1 k || ke p.1 k)
theorem gr_lt {k : ByteArray} {p : Pr} (h : lt p.1 k = true) : gr k p = false := by simp [gr, h]
theorem gr_gt {k : ByteArray} {p : Pr} (h : lt k p.1 = true) : gr k p = true := by simp [gr, lt_asymm h, gt_ne h]
/-- The key's value, of a list in any order. -/
def gt (l : List Pr) (k : ByteArray) : Option ByteArray := (l.find? fun p => ke p.1 k).map (·.2)
def del (l : List Pr) (k : ByteArray) : List Pr := l.filter fun p => !(ke p.1 k)
def ins (l : List Pr) (k v : ByteArray) : List Pr := l.takeWhile (fun p => !(gr k p)) ++ (k, v) :: l.dropWhile (fun p => !(gr k p))
def put (l : List Pr) (k v : ByteArray) : List Pr := ins (del l k) k v
def Srt (l : List Pr) : Prop := l.Pairwise fun a b => lt a.1 b.1 = true
/-- All of A are ahead of k, all of C behind it. -/
def Mid (k : ByteArray) (A C : List Pr) : Prop := (∀ p ∈ A, lt p.1 k = true) ∧ (∀ p ∈ C, lt k p.1 = true)
theorem split (k : ByteArray) : ∀ l : List Pr, Srt l → (∃ A C v, l = A ++ (k, v) :: C ∧ Mid k A C) ∨ (∃ A C, l = A ++ C ∧ Mid k A C)
  | [], _ => .inr ⟨[], [], rfl, by simp, by simp⟩
  | p :: r, h => by
    have h2 := List.pairwise_cons.1 h
    cases hp : lt p.1 k
    · cases hk : ke p.1 k
      · have hg := lt_total hp hk
        refine .inr ⟨[], p :: r, rfl, by simp, ?_⟩
        intro q hq
        rcases List.mem_cons.1 hq with rfl | hq
        · exact hg
        · exact lt_trans hg (h2.1 q hq)
      · rw [ke_iff] at hk
        refine .inl ⟨[], r, p.2, by rw [← hk]; rfl, by simp, ?_⟩
        intro q hq
        rw [← hk]; exact h2.1 q hq
    · rcases split k r h2.2 with ⟨A, C, v, rfl, m1, m2⟩ | ⟨A, C, rfl, m1, m2⟩
      · refine .inl ⟨p :: A, C, v, rfl, ?_, m2⟩
        intro q hq
        rcases List.mem_cons.1 hq with rfl | hq
        · exact hp
        · exact m1 q hq
      · refine .inr ⟨p :: A, C, rfl, ?_, m2⟩
        intro q hq
        rcases List.mem_cons.1 hq with rfl | hq
        · exact hp
        · exact m1 q hq
theorem Mid.findA {k : ByteArray} {A C : List Pr} (m : Mid k A C) : A.find? (fun p => ke p.1 k) = none := by
  rw [List.find?_eq_none]; intro p hp; rw [lt_ne (m.1 p hp)]; simp
theorem Mid.findC {k : ByteArray} {A C : List Pr} (m : Mid k A C) : C.find? (fun p => ke p.1 k) = none := by
  rw [List.find?_eq_none]; intro p hp; rw [gt_ne (m.2 p hp)]; simp
theorem Mid.gt_some {k : ByteArray} {A C : List Pr} (m : Mid k A C) (v : ByteArray) : gt (A ++ (k, v) :: C) k = some v := by
  unfold gt; rw [List.find?_append, m.findA]; simp [ke_refl]
theorem Mid.gt_none {k : ByteArray} {A C : List Pr} (m : Mid k A C) : gt (A ++ C) k = none := by
  unfold gt; rw [List.find?_append, m.findA, m.findC]; rfl
theorem Mid.delA {k : ByteArray} {A C : List Pr} (m : Mid k A C) : A.filter (fun p => !(ke p.1 k)) = A := by
  rw [List.filter_eq_self]; intro p hp; rw [lt_ne (m.1 p hp)]; rfl
theorem Mid.delC {k : ByteArray} {A C : List Pr} (m : Mid k A C) : C.filter (fun p => !(ke p.1 k)) = C := by
  rw [List.filter_eq_self]; intro p hp; rw [gt_ne (m.2 p hp)]; rfl
theorem Mid.del_some {k : ByteArray} {A C : List Pr} (m : Mid k A C) (v : ByteArray) : del (A ++ (k, v) :: C) k = A ++ C := by
  unfold del; rw [List.filter_append, List.filter_cons, m.delA, m.delC]; simp [ke_refl]
theorem Mid.del_none {k : ByteArray} {A C : List Pr} (m : Mid k A C) : del (A ++ C) k = A ++ C := by
  unfold del; rw [List.filter_append, m.delA, m.delC]
theorem takeW : ∀ (A C : List Pr) (k : ByteArray), Mid k A C → (A ++ C).takeWhile (fun p => !(gr k p)) = A ∧ (A ++ C).dropWhile (fun p => !(gr k p)) = C
  | [], [], _, _ => by simp
  | [], c :: C, k, m => by
    have := gr_gt (m.2 c (by simp))
    simp [this]
  | a :: A, C, k, m => by
    have h1 := gr_lt (m.1 a (by simp))
    obtain ⟨e1, e2⟩ := takeW A C k ⟨fun p hp => m.1 p (by simp [hp]), m.2⟩
    simp [h1, e1, e2]
theorem Mid.ins {k : ByteArray} {A C : List Pr} (m : Mid k A C) (v : ByteArray) : Dc.ins (A ++ C) k v = A ++ (k, v) :: C := by
  unfold Dc.ins; rw [(takeW A C k m).1, (takeW A C k m).2]
theorem Mid.put_some {k : ByteArray} {A C : List Pr} (m : Mid k A C) (v u : ByteArray) : put (A ++ (k, v) :: C) k u = A ++ (k, u) :: C := by
  unfold put; rw [m.del_some, m.ins]
theorem Mid.put_none {k : ByteArray} {A C : List Pr} (m : Mid k A C) (u : ByteArray) : put (A ++ C) k u = A ++ (k, u) :: C := by
  unfold put; rw [m.del_none, m.ins]
theorem Mid.srt_del {k v : ByteArray} {A C : List Pr} (h : Srt (A ++ (k, v) :: C)) : Srt (A ++ C) := by
  unfold Srt at *
  rw [List.pairwise_append] at *
  exact ⟨h.1, (List.pairwise_cons.1 h.2.1).2, fun a ha b hb => h.2.2 a ha b (by simp [hb])⟩
theorem Mid.srt_put {k : ByteArray} {A C : List Pr} (m : Mid k A C) (v : ByteArray) (h : Srt (A ++ C)) : Srt (A ++ (k, v) :: C) := by
  unfold Srt at *
  rw [List.pairwise_append] at *
  refine ⟨h.1, List.pairwise_cons.2 ⟨fun c hc => m.2 c hc, h.2.1⟩, fun a ha b hb => ?_⟩
  rcases List.mem_cons.1 hb with rfl | hb
  · exact m.1 a ha
  · exact h.2.2 a ha b hb
theorem srt_put (l : List Pr) (k v : ByteArray) (h : Srt l) : Srt (put l k v) := by
  rcases split k l h with ⟨A, C, u, rfl, m⟩ | ⟨A, C, rfl, m⟩
  · rw [m.put_some]; exact m.srt_put v (Mid.srt_del h)
  · rw [m.put_none]; exact m.srt_put v h
theorem srt_del (l : List Pr) (k : ByteArray) (h : Srt l) : Srt (del l k) := by
  rcases split k l h with ⟨A, C, u, rfl, m⟩ | ⟨A, C, rfl, m⟩
  · rw [m.del_some]; exact Mid.srt_del h
  · rw [m.del_none]; exact h
theorem srt_nil : Srt [] := List.Pairwise.nil
theorem len_put (l : List Pr) (k v : ByteArray) (h : Srt l) : (put l k v).length ≤ l.length + 1 := by
  rcases split k l h with ⟨A, C, u, rfl, m⟩ | ⟨A, C, rfl, m⟩
  · rw [m.put_some]; simp
  · rw [m.put_none]; simp; omega
theorem len_del (l : List Pr) (k : ByteArray) : (del l k).length ≤ l.length := List.length_filter_le _ _
theorem Mid.gt_other {k : ByteArray} {A C : List Pr} (v j : ByteArray) (hj : ke k j = false) : gt (A ++ (k, v) :: C) j = gt (A ++ C) j := by
  unfold gt; simp [List.find?_append, hj]
theorem gt_put (l : List Pr) (k v j : ByteArray) (h : Srt l) : gt (put l k v) j = if ke k j = true then some v else gt l j := by
  rcases split k l h with ⟨A, C, u, rfl, m⟩ | ⟨A, C, rfl, m⟩
  · rw [m.put_some]
    split
    · next e => rw [ke_iff] at e; subst e; exact m.gt_some v
    · next e => rw [Mid.gt_other v j (by simpa using e), Mid.gt_other u j (by simpa using e)]
  · rw [m.put_none]
    split
    · next e => rw [ke_iff] at e; subst e; exact m.gt_some v
    · next e => rw [Mid.gt_other v j (by simpa using e)]
theorem gt_mem {l : List Pr} {k v : ByteArray} (h : gt l k = some v) : (k, v) ∈ l := by
  unfold gt at h
  rw [Option.map_eq_some_iff] at h
  obtain ⟨p, hp, rfl⟩ := h
  have := List.find?_some hp
  simp only [ke_iff] at this
  subst this
  exact List.mem_of_find?_eq_some hp
theorem gt_head (p : Pr) (r : List Pr) : gt (p :: r) p.1 = some p.2 := by simp [gt, ke_refl]
theorem gt_tail {p : Pr} {r : List Pr} {k : ByteArray} (h : ke p.1 k = false) : gt (p :: r) k = gt r k := by simp [gt, h]
theorem gt_behind {p : Pr} {r : List Pr} (h : Srt (p :: r)) : gt r p.1 = none := by
  cases e : gt r p.1 with
  | none => rfl
  | some v =>
    have h1 := (List.pairwise_cons.1 h).1 _ (gt_mem e)
    rw [lt_irrefl] at h1; cases h1
theorem ext : ∀ (l l' : List Pr), Srt l → Srt l' → (∀ k, gt l k = gt l' k) → l = l'
  | [], [], _, _, _ => rfl
  | [], q :: s, _, _, h => by have := h q.1; rw [gt_head] at this; cases this
  | p :: r, [], _, _, h => by have := h p.1; rw [gt_head] at this; cases this
  | p :: r, q :: s, h1, h2, h => by
    have hp := gt_mem ((h p.1).symm.trans (gt_head p r))
    have hq := gt_mem ((h q.1).trans (gt_head q s))
    have e : p.1 = q.1 := by
      rcases List.mem_cons.1 hp with e | hp
      · rw [show p = q from e]
      · rcases List.mem_cons.1 hq with e | hq
        · rw [show q = p from e]
        · have a := (List.pairwise_cons.1 h2).1 _ hp
          have b := (List.pairwise_cons.1 h1).1 _ hq
          rw [lt_asymm a] at b; cases b
    have e2 : p = q := by
      have a := h p.1
      rw [gt_head] at a
      rw [e, gt_head] at a
      exact Prod.ext e (by simpa using a)
    subst e2
    rw [ext r s (List.pairwise_cons.1 h1).2 (List.pairwise_cons.1 h2).2 (fun k => by
      cases hk : ke p.1 k
      · have := h k; rwa [gt_tail hk, gt_tail hk] at this
      · rw [ke_iff] at hk; subst hk; rw [gt_behind h1, gt_behind h2])]
/-- One Put behind another. -/
def puts (l : List Pr) (ps : List Pr) : List Pr := ps.foldl (fun l p => put l p.1 p.2) l
theorem puts_nil (l : List Pr) : puts l [] = l := rfl
theorem puts_snoc (l ps : List Pr) (p : Pr) : puts l (ps ++ [p]) = put (puts l ps) p.1 p.2 := by simp [puts]
theorem srt_puts : ∀ (ps l : List Pr), Srt l → Srt (puts l ps)
  | [], _, h => h
  | p :: ps, l, h => srt_puts ps _ (srt_put l p.1 p.2 h)
theorem len_puts : ∀ (ps l : List Pr), Srt l → (puts l ps).length ≤ l.length + ps.length
  | [], _, _ => by simp [puts]
  | p :: ps, l, h => by
    have := len_puts ps _ (srt_put l p.1 p.2 h)
    have := len_put l p.1 p.2 h
    simp only [puts, List.foldl_cons, List.length_cons] at *
    omega
/-- What was put last of a key. -/
def last : List Pr → ByteArray → Option ByteArray
  | [], _ => none
  | p :: r, k => (last r k).or (if ke p.1 k = true then some p.2 else none)
theorem gt_puts : ∀ (ps l : List Pr) (k : ByteArray), Srt l → gt (puts l ps) k = (last ps k).or (gt l k)
  | [], _, _, _ => rfl
  | p :: ps, l, k, h => by
    have := gt_puts ps _ k (srt_put l p.1 p.2 h)
    rw [gt_put l p.1 p.2 k h] at this
    show gt (puts (put l p.1 p.2) ps) k = _
    rw [this]
    simp only [last]
    cases last ps k
    · split <;> simp
    · simp
theorem last_none : ∀ (ps : List Pr) (k : ByteArray), last ps k = none ↔ ∀ p ∈ ps, ke p.1 k = false
  | [], _ => by simp [last]
  | p :: ps, k => by
    have := last_none ps k
    simp only [last]
    cases e : last ps k
    · rw [e] at this
      have h2 := this.1 rfl
      simp only [Option.none_or, List.mem_cons, forall_eq_or_imp]
      cases hk : ke p.1 k <;> simp
      exact fun a b hb => h2 (a, b) hb
    · rw [e] at this
      simp only [Option.some_or, List.mem_cons, forall_eq_or_imp, reduceCtorEq, false_iff]
      intro hh
      have := this.2 hh.2
      cases this
/-- Keys alone, the last one first. -/
def keys (ps : List Pr) : List Pr := ps.reverse.map fun p => (p.1, ⟨#[]⟩)
theorem order (ps : List Pr) : puts (puts [] (keys ps)) ps = puts [] ps := by
  refine ext _ _ (srt_puts _ _ (srt_puts _ _ srt_nil)) (srt_puts _ _ srt_nil) fun k => ?_
  rw [gt_puts _ _ _ (srt_puts _ _ srt_nil), gt_puts _ _ _ srt_nil, gt_puts _ _ _ srt_nil]
  cases e : last ps k with
  | some v => rfl
  | none =>
    have e2 : last (keys ps) k = none := by
      rw [last_none] at e ⊢
      intro p hp
      simp only [keys, List.mem_map, List.mem_reverse] at hp
      obtain ⟨q, hq, rfl⟩ := hp
      exact e q hq
    rw [e2]; rfl
theorem has (ps : List Pr) (p : Pr) (hp : p ∈ ps) : ∃ v, gt (puts [] ps) p.1 = some v := by
  rw [gt_puts _ _ _ srt_nil]
  cases e : last ps p.1 with
  | some v => exact ⟨v, rfl⟩
  | none => rw [last_none] at e; have := e p hp; rw [ke_refl] at this; cases this
theorem srt_at {l : List Pr} (h : Srt l) (i j : Nat) (hj : j < l.length) (hij : i < j) : lt (l[i]'(by omega)).1 l[j].1 = true := List.pairwise_iff_getElem.1 h i j (by omega) hj hij
end Go.Proofs.Ytigopifioijjlaa.Dc
