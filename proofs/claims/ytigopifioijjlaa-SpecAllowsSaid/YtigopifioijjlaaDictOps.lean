/-
  The walks of Get, Put and Delete. By an AI agent.
-/
import Derived.Test.YtigopifioijjlaaDictGrow
set_option linter.unusedSimpArgs false
namespace Go.Proofs.Ytigopifioijjlaa
open Go.RowKit
open Dc (Pr)
/-- What is told of a key. -/
def ans : Option ByteArray → Value
  | some u => .tuple #[.string u, .bool true]
  | none => .tuple #[.string ⟨#[]⟩, .bool false]
/-- A change of the map: what is told, and the map behind it. -/
def Turns (B p : Nat) (v : Value) (o : Option ByteArray) (l : List Pr) (w : World) (e : Ending) (w' : World) : Prop := e = .returned (ans o) ∧ ∃ v', Mp B w' p v' l ∧ Sp p v v' w w'
theorem heap_set1 {w : World} {p : Nat} {a b : Value} {t : TypeId} (h : w.heap[p]? = some (.cells #[a, b] t (0, 0))) (u : Value) : (w.setCell ⟨p, 1, none⟩ u).heap[p]? = some (.cells #[a, u] t (0, 0)) := by
  obtain ⟨hlt, hk⟩ := Array.getElem?_eq_some_iff.1 h
  show (w.heap.modify p _)[p]? = _
  rw [Array.getElem?_eq_getElem (by rw [Array.size_modify]; exact hlt), Array.getElem_modify_self, hk]
  rfl
/-- The map's block takes the new row. -/
theorem Mp.takes {B : Nat} {w w' : World} {p : Nat} {v v' : Value} {l l' : List Pr} (h : Mp B w p v l) (hs : Sr v v' w w') (hr : Row B 64 w' v' l') (hsrt : Dc.Srt l') :
    Mp B (w'.setCell ⟨p, 1, none⟩ v') p v' l' ∧ Sp p v v' w (w'.setCell ⟨p, 1, none⟩ v') := by
  have ho : w'.heap[p]? = some (.cells #[.bool true, v] 67 (0, 0)) := (hs.block p h.lt (own_ne h.row h.own (by decide))).trans h.own
  refine ⟨⟨h.from_, heap_set1 ho v', own_keep hr fun k hk => Below.heap_setCell _ _ _ k (fun e => own_ne hr ho (by decide) (by have e' : k = p := e; rw [← e']; exact hk)), hsrt⟩, ⟨hs.os, hs.tape, hs.output, ?_, fun k hk h1 h2 => (Below.heap_setCell _ _ _ k h1).trans (hs.block k hk h2), hs.row⟩⟩
  simp [World.setCell]; exact hs.size
set_option maxHeartbeats 2000000 in
theorem get_some (B p : Nat) (v : Value) (A C : List Pr) (k u : ByteArray) (w : World) (h : Mp B w p v (A ++ (k, u) :: C)) (hl : (A ++ (k, u) :: C).length ≤ 1000000) (m : Dc.Mid k A C) :
    Calls Try.prog 27 #[.pointer (some ⟨p, 0, none⟩), .string k] w (Gives (.tuple #[.string u, .bool true]) w) := by
  have HF : Hid (Calls Try.prog 33 #[.pointer (some ⟨p, 0, none⟩), .string k] w (Gives (.tuple #[.int .i64 (A.length : Int), .bool true]) w)) := Lib.hid (find_some B p v A C k u w h hl m)
  have hlt : A.length < (A ++ (k, u) :: C).length := by simp
  obtain ⟨g, c, rfl⟩ := h.row.addr hlt
  have e2 : (A ++ (k, u) :: C)[A.length].2 = u := by simp
  have hcells : ∀ w1, Below w.heap.size w w1 → w1.cell? ⟨p, 1, none⟩ = some (.slice (some ⟨g, 0, none⟩) (A ++ (k, u) :: C).length c) ∧ w1.cell? ⟨g, A.length * 2 + 1, none⟩ = some (.string u) := fun w1 hb =>
    ⟨(h.below hb).cell1, by have := Row.val (h.below hb).row hlt; rw [e2] at this; exact this⟩
  have HC := Lib.hid hcells; clear hcells e2
  generalize (A ++ (k, u) :: C).length = n at *
  have hltZ : (A.length : Int) < (n : Int) := by omega
  clear h
  go_enter Try.func27, Try.ntmps27
  go_wp2_with (go_at_call 33; refine HF.out.mono ?_; rintro e w1 ⟨rfl, hb⟩; obtain ⟨c1, c2⟩ := HC.out w1 hb)
  go_ret2
  exact ⟨rfl, hb⟩
set_option maxHeartbeats 2000000 in
theorem get_fails (P : Option Addr) (i : Nat) (k : ByteArray) (w : World) (h : Calls Try.prog 33 #[.pointer P, .string k] w (Gives (.tuple #[.int .i64 (i : Int), .bool false]) w)) :
    Calls Try.prog 27 #[.pointer P, .string k] w (Gives (.tuple #[.string ⟨#[]⟩, .bool false]) w) := by
  have HF := Lib.hid h; clear h
  have HN : Hid (∀ w, Calls Try.prog 34 #[] w (Same (.tuple #[.string ⟨#[]⟩, .bool false]) w)) := Lib.hid none_any
  go_enter Try.func27, Try.ntmps27
  go_wp2_with (first | (go_at_call 33; refine HF.out.mono ?_; rintro e w1 ⟨rfl, hb⟩) | (go_at_call 34; refine (HN.out _).mono ?_; rintro e w2 ⟨rfl, rfl⟩) | fail)
  go_ret2
  exact ⟨rfl, hb⟩
theorem get_any (B p : Nat) (v : Value) (l : List Pr) (k : ByteArray) (w : World) (h : Mp B w p v l) (hl : l.length ≤ 1000000) :
    Calls Try.prog 27 #[.pointer (some ⟨p, 0, none⟩), .string k] w (Gives (ans (Dc.gt l k)) w) := by
  rcases Dc.split k l h.srt with ⟨A, C, u, rfl, m⟩ | ⟨A, C, rfl, m⟩
  · rw [m.gt_some]; exact get_some B p v A C k u w h hl m
  · rw [m.gt_none]; exact get_fails _ A.length k w (find_none B p v A C k w h hl m)
theorem get_not (P : Option Addr) (k : ByteArray) (w : World) (h : Not P w) : Calls Try.prog 27 #[.pointer P, .string k] w (Gives (ans none) w) :=
  get_fails P 0 k w (find_not P k w h)
set_option maxHeartbeats 2000000 in
theorem del_fails (P : Option Addr) (i : Nat) (k : ByteArray) (w : World) (h : Calls Try.prog 33 #[.pointer P, .string k] w (Gives (.tuple #[.int .i64 (i : Int), .bool false]) w)) :
    Calls Try.prog 35 #[.pointer P, .string k] w (Gives (.tuple #[.string ⟨#[]⟩, .bool false]) w) := by
  have HF := Lib.hid h; clear h
  have HN : Hid (∀ w, Calls Try.prog 34 #[] w (Same (.tuple #[.string ⟨#[]⟩, .bool false]) w)) := Lib.hid none_any
  go_enter Try.func35, Try.ntmps35
  go_wp2_with (first | (go_at_call 33; refine HF.out.mono ?_; rintro e w1 ⟨rfl, hb⟩) | (go_at_call 34; refine (HN.out _).mono ?_; rintro e w2 ⟨rfl, rfl⟩) | fail)
  go_ret2
  exact ⟨rfl, hb⟩
set_option maxHeartbeats 2000000 in
theorem del_some (B p : Nat) (v : Value) (A C : List Pr) (k u : ByteArray) (w : World) (h : Mp B w p v (A ++ (k, u) :: C)) (hl : (A ++ (k, u) :: C).length ≤ 1000000) (m : Dc.Mid k A C) :
    Calls Try.prog 35 #[.pointer (some ⟨p, 0, none⟩), .string k] w (Turns B p v (some u) (A ++ C) w) := by
  have HF : Hid (Calls Try.prog 33 #[.pointer (some ⟨p, 0, none⟩), .string k] w (Gives (.tuple #[.int .i64 (A.length : Int), .bool true]) w)) := Lib.hid (find_some B p v A C k u w h hl m)
  have hlt : A.length < (A ++ (k, u) :: C).length := by simp
  obtain ⟨g, c, rfl⟩ := h.row.addr hlt
  have e2 : (A ++ (k, u) :: C)[A.length].2 = u := by simp
  have hcells : ∀ w1, Below w.heap.size w w1 → Mp B w1 p (.slice (some ⟨g, 0, none⟩) (A ++ (k, u) :: C).length c) (A ++ (k, u) :: C) ∧ w1.cell? ⟨p, 1, none⟩ = some (.slice (some ⟨g, 0, none⟩) (A ++ (k, u) :: C).length c) ∧ w1.cell? ⟨g, A.length * 2 + 1, none⟩ = some (.string u) := fun w1 hb =>
    ⟨h.below hb, (h.below hb).cell1, by have := Row.val (h.below hb).row hlt; rw [e2] at this; exact this⟩
  have hD : ∀ w1, Mp B w1 p (.slice (some ⟨g, 0, none⟩) (A ++ (k, u) :: C).length c) (A ++ (k, u) :: C) → Calls Try.prog 41 #[.slice (some ⟨g, 0, none⟩) (A ++ (k, u) :: C).length c, .int .i64 (A.length : Int), .int .i64 ((A.length : Int) + 1)] w1 fun e w' => ∃ v', e = .returned v' ∧ Row B 64 w' v' (A ++ C) ∧ Sr (.slice (some ⟨g, 0, none⟩) (A ++ (k, u) :: C).length c) v' w1 w' := fun w1 h1 => sdelete_any B _ A C (k, u) w1 h1.row hl
  have hS : Hid (Dc.Srt (A ++ C)) := Lib.hid (Dc.Mid.srt_del h.srt)
  have HC := Lib.hid hcells; clear hcells e2
  have HD := Lib.hid hD; clear hD
  generalize hn : (A ++ (k, u) :: C).length = n at *
  have Hn := Lib.hid hn; clear hn
  have hltZ : (A.length : Int) < (n : Int) := by omega
  have hw : IntKind.i64.wrap ((A.length : Int) + 1) = (A.length : Int) + 1 := by rw [IntKind.wrap_i64]; omega
  clear h
  go_enter Try.func35, Try.ntmps35
  go_wp2_with fail
  with_reducible refine HF.out.mono ?_
  rintro e w1 ⟨rfl, hb⟩
  obtain ⟨hm1, c1, c2⟩ := HC.out w1 hb
  have HM1 := Lib.hid hm1; clear hm1
  go_wp2_with fail
  with_reducible refine (HD.out _ HM1.out).mono ?_
  rintro e w2 ⟨v', rfl, hr, hs⟩
  obtain ⟨va, vc, rfl⟩ := hr.lens
  have hbl := hs.block p HM1.out.lt (own_ne HM1.out.row HM1.out.own (by decide))
  have c3 := (World.cell?_of_block (w := w1) (a := ⟨p, 1, none⟩) hbl).trans HM1.out.cell1
  have c4 := (World.frozen?_of_block (w := w1) (a := ⟨p, 1, none⟩) hbl).trans HM1.out.frozen1
  have HS := Lib.hid hs; have HR := Lib.hid hr; clear hs hr hbl
  go_wp2
  go_ret2
  obtain ⟨t1, t2⟩ := HM1.out.takes HS.out HR.out hS.out
  rw [List.length_append] at t1 t2
  exact ⟨rfl, _, t1, t2.pre hb⟩
theorem del_any (B p : Nat) (v : Value) (l : List Pr) (k : ByteArray) (w : World) (h : Mp B w p v l) (hl : l.length ≤ 1000000) :
    Calls Try.prog 35 #[.pointer (some ⟨p, 0, none⟩), .string k] w (Turns B p v (Dc.gt l k) (Dc.del l k) w) := by
  rcases Dc.split k l h.srt with ⟨A, C, u, rfl, m⟩ | ⟨A, C, rfl, m⟩
  · rw [m.gt_some, m.del_some]; exact del_some B p v A C k u w h hl m
  · rw [m.gt_none, m.del_none]
    refine (del_fails _ A.length k w (find_none B p v A C k w h hl m)).mono ?_
    rintro e w' ⟨rfl, hb⟩
    exact ⟨rfl, v, h.below hb, Sp.of_below hb⟩
theorem del_not (P : Option Addr) (k : ByteArray) (w : World) (h : Not P w) : Calls Try.prog 35 #[.pointer P, .string k] w (Gives (ans none) w) :=
  del_fails P 0 k w (find_not P k w h)
theorem enc_set : ∀ (A C : List Pr) (k u x : ByteArray), (enc (A ++ (k, u) :: C)).set (A.length * 2 + 1) (.string x) = enc (A ++ (k, x) :: C)
  | [], C, k, u, x => rfl
  | a :: A, C, k, u, x => by
    have := enc_set A C k u x
    simp only [List.cons_append, enc, List.length_cons]
    rw [show (A.length + 1) * 2 + 1 = A.length * 2 + 1 + 1 + 1 by omega, List.set_cons_succ, List.set_cons_succ, this]
set_option maxHeartbeats 2000000 in
theorem put_some (B p : Nat) (v : Value) (A C : List Pr) (k u x : ByteArray) (w : World) (h : Mp B w p v (A ++ (k, u) :: C)) (hl : (A ++ (k, u) :: C).length ≤ 1000000) (m : Dc.Mid k A C) :
    Calls Try.prog 32 #[.pointer (some ⟨p, 0, none⟩), .string k, .string x] w (Turns B p v (some u) (A ++ (k, x) :: C) w) := by
  have HF : Hid (Calls Try.prog 33 #[.pointer (some ⟨p, 0, none⟩), .string k] w (Gives (.tuple #[.int .i64 (A.length : Int), .bool true]) w)) := Lib.hid (find_some B p v A C k u w h hl m)
  have HI := Lib.hid (made_any p true w h.cell0)
  have hlt : A.length < (A ++ (k, u) :: C).length := by simp
  obtain ⟨g, c, rfl⟩ := h.row.addr hlt
  have e2 : (A ++ (k, u) :: C)[A.length].2 = u := by simp
  have hcells : ∀ w1, Below w.heap.size w w1 → Mp B w1 p (.slice (some ⟨g, 0, none⟩) (A ++ (k, u) :: C).length c) (A ++ (k, u) :: C) ∧ w1.cell? ⟨p, 1, none⟩ = some (.slice (some ⟨g, 0, none⟩) (A ++ (k, u) :: C).length c) ∧ w1.cell? ⟨g, A.length * 2 + 1, none⟩ = some (.string u) ∧ w1.frozen? ⟨g, A.length * 2 + 1, none⟩ = false := fun w1 hb =>
    ⟨h.below hb, (h.below hb).cell1, by have := Row.val (h.below hb).row hlt; rw [e2] at this; exact this, World.ownsRow.frozenAt (h.below hb).row _⟩
  have hS : Hid (Dc.Srt (A ++ (k, x) :: C)) := Lib.hid (m.srt_put x (Dc.Mid.srt_del h.srt))
  have HC := Lib.hid hcells; clear hcells e2
  have hlen : (A ++ (k, x) :: C).length = (A ++ (k, u) :: C).length := by simp
  generalize hn : (A ++ (k, u) :: C).length = n at *
  have Hn := Lib.hid hn; clear hn
  have Hlen := Lib.hid hlen; clear hlen
  have hltZ : (A.length : Int) < (n : Int) := by omega
  clear h
  go_enter Try.func32, Try.ntmps32
  go_wp2_with fail
  with_reducible refine HI.out.mono ?_
  rintro e w0 ⟨rfl, rfl⟩
  go_wp2_with fail
  with_reducible refine HF.out.mono ?_
  rintro e w1 ⟨rfl, hb⟩
  obtain ⟨hm1, c1, c2, c3⟩ := HC.out w1 hb
  have HM1 := Lib.hid hm1; clear hm1
  go_wp2
  go_ret2
  have hmm := HM1.out
  have hr := hmm.row
  unfold Row at hr
  rw [Hn.out] at hr
  obtain ⟨r1, r2⟩ := World.ownsRow.stored hr (A.length * 2 + 1) (.string x)
  rw [enc_set] at r1
  have hpg : p ≠ g := fun e => own_ne hmm.row hmm.own (by decide) (by rw [e]; rfl)
  refine ⟨rfl, _, ⟨hmm.from_, (r2.block p hmm.lt (fun e => hpg (by cases e; rfl))).trans hmm.own, ?_, hS.out⟩, Sp.pre hb ⟨r2.os, r2.tape, r2.output, r2.size, fun q hq _ h2 => r2.block q hq (fun e => h2 (by rw [e]; rfl)), fun q hq => .inl hq⟩⟩
  unfold Row
  rw [Hlen.out]
  exact r1
set_option maxHeartbeats 2000000 in
theorem put_none (B p : Nat) (v : Value) (A C : List Pr) (k x : ByteArray) (w : World) (h : Mp B w p v (A ++ C)) (hl : (A ++ C).length ≤ 1000000) (m : Dc.Mid k A C) :
    Calls Try.prog 32 #[.pointer (some ⟨p, 0, none⟩), .string k, .string x] w (Turns B p v none (A ++ (k, x) :: C) w) := by
  have HF : Hid (Calls Try.prog 33 #[.pointer (some ⟨p, 0, none⟩), .string k] w (Gives (.tuple #[.int .i64 (A.length : Int), .bool false]) w)) := Lib.hid (find_none B p v A C k w h hl m)
  have HI := Lib.hid (made_any p true w h.cell0)
  have HN : Hid (∀ w, Calls Try.prog 34 #[] w (Same (.tuple #[.string ⟨#[]⟩, .bool false]) w)) := Lib.hid none_any
  obtain ⟨a0, c0, rfl⟩ := h.row.lens
  have HH := Lib.hid h
  have hS : Hid (Dc.Srt (A ++ (k, x) :: C)) := Lib.hid (m.srt_put x h.srt)
  generalize hn : (A ++ C).length = n at *
  have Hn := Lib.hid hn; clear hn
  clear h
  go_enter Try.func32, Try.ntmps32
  go_wp2_with fail
  with_reducible refine HI.out.mono ?_
  rintro e w0 ⟨rfl, rfl⟩
  go_wp2_with fail
  with_reducible refine HF.out.mono ?_
  rintro e w1 ⟨rfl, hb⟩
  have hm1 := HH.out.below hb
  have c1 := hm1.cell1
  have HM1 := Lib.hid hm1; clear hm1
  go_wp2_with fail
  have hm2 := HM1.out.alloc (.cells #[.string k, .string x] 64)
  have hb2 : Below w.heap.size w (w1.alloc (.cells #[.string k, .string x] 64)) := hb.alloc hb.size _
  have hI := insert_any B w1.heap.size _ A C (k, x) _ hm2.row (by have := hm2.from_; have := hm2.lt; omega) (by rw [Hn.out]; exact hl) (heap_alloc_new w1 _) (fun e => by have := (HM1.out.row.lt _ e).2; omega)
  have HI2 := Lib.hid hI; clear hI
  have HM2 := Lib.hid hm2; clear hm2
  have HB2 := Lib.hid hb2; clear hb2
  with_reducible refine HI2.out.mono ?_
  rintro e w2 ⟨v', rfl, hr, hs⟩
  obtain ⟨va, vc, rfl⟩ := hr.lens
  have hbl := hs.block p HM2.out.lt (own_ne HM2.out.row HM2.out.own (by decide))
  have c3 := (World.cell?_of_block (a := ⟨p, 1, none⟩) hbl).trans HM2.out.cell1
  have c4 := (World.frozen?_of_block (a := ⟨p, 1, none⟩) hbl).trans HM2.out.frozen1
  have HS := Lib.hid hs; have HR := Lib.hid hr; clear hs hr hbl
  generalize hn2 : (A ++ (k, x) :: C).length = n2 at *
  have Hn2 := Lib.hid hn2; clear hn2
  go_wp2_with fail
  with_reducible refine (HN.out _).mono ?_
  rintro e w3 ⟨rfl, rfl⟩
  go_wp2
  go_ret2
  obtain ⟨t1, t2⟩ := HM2.out.takes HS.out HR.out hS.out
  exact ⟨rfl, _, t1, t2.pre HB2.out⟩
theorem put_any (B p : Nat) (v : Value) (l : List Pr) (k x : ByteArray) (w : World) (h : Mp B w p v l) (hl : l.length ≤ 1000000) :
    Calls Try.prog 32 #[.pointer (some ⟨p, 0, none⟩), .string k, .string x] w (Turns B p v (Dc.gt l k) (Dc.put l k x) w) := by
  rcases Dc.split k l h.srt with ⟨A, C, u, rfl, m⟩ | ⟨A, C, rfl, m⟩
  · rw [m.gt_some, m.put_some]; exact put_some B p v A C k u x w h hl m
  · rw [m.gt_none, m.put_none]; exact put_none B p v A C k x w h hl m
set_option maxHeartbeats 2000000 in
theorem put_not (P : Option Addr) (k x : ByteArray) (w : World) (h : Not P w) : Calls Try.prog 32 #[.pointer P, .string k, .string x] w (Gives (.tuple #[.string ⟨#[]⟩, .bool false]) w) := by
  have HI := Lib.hid (h w (Below.refl _ _)); clear h
  have HN : Hid (∀ w, Calls Try.prog 34 #[] w (Same (.tuple #[.string ⟨#[]⟩, .bool false]) w)) := Lib.hid none_any
  go_enter Try.func32, Try.ntmps32
  go_wp2_with (first | (go_at_call 37; refine HI.out.mono ?_; rintro e w1 ⟨rfl, rfl⟩) | (go_at_call 34; refine (HN.out _).mono ?_; rintro e w2 ⟨rfl, rfl⟩) | fail)
  go_ret2
  exact ⟨rfl, Below.refl _ _⟩
end Go.Proofs.Ytigopifioijjlaa
