/-
  The plain mathematics of operations on maps in order: what is answered, and what the map is then. No program in it. By an AI agent.
-/
import Derived.Test.YtigopifioijjlaaDictMath
namespace Go.Proofs.Ytigopifioijjlaa.Dc
/-- An answer. -/
structure Rpl where
  err : Int := 0
  had : Bool := false
  did : Bool := false
  val : ByteArray := ⟨#[]⟩
  n : Int := 0
  prs : List Pr := []
theorem ext_rpl {a b : Rpl} (h1 : a.err = b.err) (h2 : a.had = b.had) (h3 : a.did = b.did) (h4 : a.val = b.val) (h5 : a.n = b.n) (h6 : a.prs = b.prs) : a = b := by
  cases a; cases b; simp_all
/-- Are two lists the same, pair by pair? -/
def eqB : List Pr → List Pr → Bool
  | [], [] => true
  | p :: r, q :: s => (ke p.1 q.1 && ke p.2 q.2) && eqB r s
  | _, _ => false
theorem eqB_iff : ∀ l m : List Pr, eqB l m = true ↔ l = m
  | [], [] => by simp [eqB]
  | [], _ :: _ => by simp [eqB]
  | _ :: _, [] => by simp [eqB]
  | p :: r, q :: s => by
    simp only [eqB, Bool.and_eq_true, ke_iff, eqB_iff r s, List.cons.injEq]
    exact ⟨fun h => ⟨Prod.ext h.1.1 h.1.2, h.2⟩, fun h => ⟨by rw [h.1]; exact ⟨rfl, rfl⟩, h.2⟩⟩
theorem eqB_refl (l : List Pr) : eqB l l = true := (eqB_iff l l).2 rfl
theorem eqB_len {l m : List Pr} (h : l.length ≠ m.length) : eqB l m = false := by
  cases e : eqB l m
  · rfl
  · rw [eqB_iff] at e; subst e; exact absurd rfl h
/-- The first k pairs being the same, the lists are so, if what is left is. -/
theorem eqB_drop {l m : List Pr} {k : Nat} (hl : k < l.length) (hm : k < m.length) : eqB (l.drop k) (m.drop k) = ((ke l[k].1 m[k].1 && ke l[k].2 m[k].2) && eqB (l.drop (k + 1)) (m.drop (k + 1))) := by
  rw [List.drop_eq_getElem_cons hl, List.drop_eq_getElem_cons hm]; rfl
/-- Are two answers the same? -/
def sameB (a b : Rpl) : Bool := ((((a.err == b.err && a.had == b.had) && a.did == b.did) && (a.val.toList == b.val.toList)) && a.n == b.n) && eqB a.prs b.prs
theorem sameB_iff (a b : Rpl) : sameB a b = true ↔ a = b := by
  simp only [sameB, Bool.and_eq_true, beq_iff_eq, eqB_iff]
  constructor
  · rintro ⟨⟨⟨⟨⟨h1, h2⟩, h3⟩, h4⟩, h5⟩, h6⟩
    exact ext_rpl h1 h2 h3 (toList_inj h4) h5 h6
  · rintro rfl; simp
theorem sameB_refl (a : Rpl) : sameB a a = true := (sameB_iff a a).2 rfl
theorem sameB_comm (a b : Rpl) : sameB a b = sameB b a := by
  rw [Bool.eq_iff_iff, sameB_iff, sameB_iff]; exact eq_comm
/-- Do keys rise? -/
def rightB : List Pr → Bool
  | [] => true
  | [_] => true
  | p :: q :: r => lt p.1 q.1 && rightB (q :: r)
theorem rightB_iff : ∀ l : List Pr, rightB l = true ↔ Srt l
  | [] => by simp [rightB, Srt]
  | [p] => by simp [rightB, Srt]
  | p :: q :: r => by
    have ih := rightB_iff (q :: r)
    simp only [rightB, Bool.and_eq_true, ih]
    constructor
    · rintro ⟨h1, h2⟩
      refine List.pairwise_cons.2 ⟨fun x hx => ?_, h2⟩
      rcases List.mem_cons.1 hx with rfl | hx
      · exact h1
      · exact lt_trans h1 ((List.pairwise_cons.1 h2).1 x hx)
    · intro h
      have h2 := List.pairwise_cons.1 h
      exact ⟨h2.1 q (by simp), h2.2⟩
theorem rightB_drop {l : List Pr} {k : Nat} (h : k + 1 < l.length) : rightB (l.drop k) = (lt l[k].1 l[k + 1].1 && rightB (l.drop (k + 1))) := by
  rw [List.drop_eq_getElem_cons (by omega : k < l.length), List.drop_eq_getElem_cons h]; rfl
theorem rightB_end {l : List Pr} {k : Nat} (h : l.length ≤ k + 1) : rightB (l.drop k) = true := by
  rcases Nat.lt_or_ge k l.length with h1 | h1
  · rw [List.drop_eq_getElem_cons h1, List.drop_eq_nil_of_le h]; rfl
  · rw [List.drop_eq_nil_of_le h1]; rfl
/-- Is an operation too long? -/
def longB (k : Int) (key val : ByteArray) : Bool := (decide (1 ≤ k) && decide (k ≤ 7) && decide (16 < key.size)) || (decide (2 ≤ k) && decide (k ≤ 5) && decide (24 < val.size))
/-- Does an operation change its key, that has g? -/
def didB (k : Int) (old : ByteArray) (g : Option ByteArray) : Bool :=
  if k = 2 then true else if k = 3 then g.isNone else if k = 4 ∨ k = 6 then g.isSome else if k = 5 ∨ k = 7 then (match g with | none => false | some v => ke v old) else false
/-- What the map is behind an operation on a key. -/
def keyM (l : List Pr) (k : Int) (key val old : ByteArray) : List Pr :=
  if didB k old (gt l key) = true then (if 6 ≤ k then del l key else put l key val) else l
/-- What it is answered. -/
def keyR (l : List Pr) (k : Int) (key old : ByteArray) : Rpl := { had := (gt l key).isSome, did := didB k old (gt l key), val := (gt l key).getD ⟨#[]⟩ }
/-- The map behind any operation. -/
def doM (l : List Pr) (k : Int) (key val old : ByteArray) : List Pr :=
  if longB k key val = true then l else if 1 ≤ k ∧ k ≤ 7 then keyM l k key val old else if k = 9 then [] else l
/-- What any operation is answered. -/
def doR (l : List Pr) (k : Int) (key val old : ByteArray) : Rpl :=
  if longB k key val = true then { err := 11 } else if 1 ≤ k ∧ k ≤ 7 then keyR l k key old else if k = 8 then { n := l.length } else if k = 9 then { did := true } else if k = 10 then { prs := l } else if k = 11 then {} else { err := 2 }
/-- May an operation be answered r? -/
def mayB (l : List Pr) (k : Int) (key val old : ByteArray) (r : Rpl) : Bool := sameB r (doR l k key val old) || ((sameB r { err := 10 } && ((doR l k key val old).err == 0)) && k != 11)
/-- What the map is then. -/
def mayM (l : List Pr) (k : Int) (key val old : ByteArray) (r : Rpl) : List Pr := if sameB r (doR l k key val old) = true then doM l k key val old else l
theorem srt_keyM {l : List Pr} (h : Srt l) (k : Int) (key val old : ByteArray) : Srt (keyM l k key val old) := by
  unfold keyM
  split
  · split
    · exact srt_del _ _ h
    · exact srt_put _ _ _ h
  · exact h
theorem srt_doM {l : List Pr} (h : Srt l) (k : Int) (key val old : ByteArray) : Srt (doM l k key val old) := by
  unfold doM
  split
  · exact h
  · split
    · exact srt_keyM h _ _ _ _
    · split
      · exact srt_nil
      · exact h
theorem len_doM {l : List Pr} (h : Srt l) (k : Int) (key val old : ByteArray) : (doM l k key val old).length ≤ l.length + 1 := by
  unfold doM keyM
  split
  · omega
  · split
    · split
      · split
        · have := len_del l key; omega
        · exact len_put l key val h
      · omega
    · split
      · simp
      · omega
theorem len_doR {l : List Pr} (k : Int) (key val old : ByteArray) : (doR l k key val old).prs.length ≤ l.length := by
  unfold doR keyR
  repeat (first | (split; · first | (simp; done) | omega) | simp)
/-- Deleting behind a change of a key is deleting. -/
theorem del_keyM {l : List Pr} (h : Srt l) (k : Int) (key val old : ByteArray) : del (keyM l k key val old) key = del l key := by
  unfold keyM
  split
  · split
    · unfold del; rw [List.filter_filter]; simp
    · rcases split key l h with ⟨A, C, u, rfl, m⟩ | ⟨A, C, rfl, m⟩
      · rw [m.put_some, m.del_some, m.del_some]
      · rw [m.put_none, m.del_some, m.del_none]
  · rfl
theorem del_doM {l : List Pr} (h : Srt l) (k : Int) (key val old : ByteArray) (h9 : k ≠ 9) : del (doM l k key val old) key = del l key := by
  unfold doM
  split
  · rfl
  · split
    · exact del_keyM h _ _ _ _
    · rfl
theorem gt_del {l : List Pr} (k : ByteArray) : gt (del l k) k = none := by
  unfold gt del
  rw [Option.map_eq_none_iff, List.find?_eq_none]
  intro p hp
  have := (List.mem_filter.1 hp).2
  simpa using this
/-- What is not changed stays; what is changed is no refusal. -/
theorem keeps {l : List Pr} (k : Int) (key val old : ByteArray) (h9 : k ≠ 9) (hd : (doR l k key val old).did = false) : doM l k key val old = l := by
  unfold doM
  unfold doR at hd
  split
  · rfl
  · rename_i hl
    rw [if_neg hl] at hd
    split
    · rename_i hk
      rw [if_pos hk] at hd
      have hd' : didB k old (gt l key) = false := hd
      unfold keyM; rw [hd']; rfl
    · rfl
theorem changed {l : List Pr} (k : Int) (key val old : ByteArray) (h9 : k ≠ 9) (hd : (doR l k key val old).did = true) : (doR l k key val old).err = 0 ∧ longB k key val = false ∧ (2 ≤ k ∧ k ≤ 7) ∧ didB k old (gt l key) = true := by
  unfold doR at hd ⊢
  cases hl : longB k key val
  · rw [hl] at hd
    simp only [Bool.false_eq_true, if_false] at hd ⊢
    by_cases hk : 1 ≤ k ∧ k ≤ 7
    · rw [if_pos hk] at hd ⊢
      have hd' : didB k old (gt l key) = true := hd
      refine ⟨rfl, trivial, ⟨?_, hk.2⟩, hd'⟩
      by_cases h1 : k = 1
      · subst h1; simp [didB] at hd'
      · omega
    · rw [if_neg hk] at hd
      rw [if_neg h9] at hd
      repeat (first | (split at hd; · cases hd) | cases hd)
  · rw [hl] at hd; cases hd
theorem was {l : List Pr} (k : Int) (key old : ByteArray) (h6 : k = 6 ∨ k = 7) (hd : didB k old (gt l key) = true) : (gt l key).isSome = true := by
  cases e : gt l key
  · rw [e] at hd
    rcases h6 with rfl | rfl <;> simp [didB] at hd
  · rfl
theorem now_del {l : List Pr} (k : Int) (key val old : ByteArray) (h6 : k = 6 ∨ k = 7) (hl : longB k key val = false) (hd : didB k old (gt l key) = true) : gt (doM l k key val old) key = none := by
  unfold doM keyM
  rw [hl, hd]
  simp only [Bool.false_eq_true, if_false, if_true]
  rw [if_pos (by omega), if_pos (by omega)]
  exact gt_del key
theorem now_put {l : List Pr} (h : Srt l) (k : Int) (key val old : ByteArray) (h6 : 2 ≤ k ∧ k ≤ 5) (hl : longB k key val = false) (hd : didB k old (gt l key) = true) : gt (doM l k key val old) key = some val := by
  unfold doM keyM
  rw [hl, hd]
  simp only [Bool.false_eq_true, if_false, if_true]
  rw [if_pos (by omega), if_neg (by omega), gt_put l key val key h, if_pos (ke_refl key)]
/-- Putting the pairs of a map, in its order, makes that map. -/
theorem gt_of_mem : ∀ {l : List Pr}, Srt l → ∀ p ∈ l, gt l p.1 = some p.2
  | q :: r, h, p, hp => by
    rcases List.mem_cons.1 hp with rfl | hp
    · exact gt_head _ _
    · have h2 := List.pairwise_cons.1 h
      rw [gt_tail (lt_ne (h2.1 p hp))]
      exact gt_of_mem h2.2 p hp
theorem puts_take {l : List Pr} (h : Srt l) : ∀ k, k ≤ l.length → puts [] (l.take k) = l.take k
  | 0, _ => by simp [puts]
  | k + 1, hk => by
    have ih := puts_take h k (by omega)
    rw [← List.take_append_getElem (by omega : k < l.length), puts_snoc, ih]
    have hm : Mid l[k].1 (l.take k) [] := ⟨fun q hq => by
      obtain ⟨i, hi, rfl⟩ := List.getElem_of_mem hq
      have hi' : i < k := by simp at hi; omega
      rw [List.getElem_take]
      exact srt_at h i k (by omega) hi', by simp⟩
    have := hm.put_none l[k].2
    rwa [List.append_nil] at this
theorem puts_all {l : List Pr} (h : Srt l) : puts [] l = l := by
  have := puts_take h l.length (Nat.le_refl _)
  rwa [List.take_length] at this
end Go.Proofs.Ytigopifioijjlaa.Dc
