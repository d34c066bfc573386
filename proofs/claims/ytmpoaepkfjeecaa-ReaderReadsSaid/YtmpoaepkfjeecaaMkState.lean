/-
  A maker behind so many answers; its Act, Take, Result and New. By an AI agent.
-/
import Derived.Test.YtmpoaepkfjeecaaMkTake2
import Derived.Test.YtmpoaepkfjeecaaMkMath
import Derived.Test.YtmpoaepkfjeecaaBoxWords
set_option linter.unusedSimpArgs false
set_option linter.unusedVariables false
namespace Go.Proofs.Ytmpoaepkfjeecaa
open Go.RowKit Go.Maps
open Ac (A)
/-- What the block's field holds. -/
def fb (j b : Nat) : Nat := if j = 0 then 0 else b
/-- A maker of a box of the words l at block g, behind j answers, the first of them b. -/
structure Mst (B : Nat) (w : World) (q : Nat) (l : List Nat) (g c j b : Nat) : Prop where
  qB : B ≤ q
  gB : B ≤ g
  ne : g ≠ q
  own : Mk w q ⟨5, 0, l.length, 0, 0⟩ (Kr.act l j b) (some ⟨g, 0, none⟩) l.length c (fb j b)
  ltg : g < w.heap.size
  wds : ∀ i, i < l.length → w.cell? ⟨g, i, none⟩ = some (.int .u64 ((l.getD i 0 : Nat) : Int))
section
variable {B : Nat} {w w' : World} {q g c j b : Nat} {l : List Nat}
theorem Mst.keep (h : Mst B w q l g c j b) (hz : w.heap.size ≤ w'.heap.size) (eq : w'.heap[q]? = w.heap[q]?) (eg : w'.heap[g]? = w.heap[g]?) : Mst B w' q l g c j b :=
  ⟨h.qB, h.gB, h.ne, h.own.keep eq, Nat.lt_of_lt_of_le h.ltg hz, fun i hi => by rw [World.cell?, eg]; exact h.wds i hi⟩
theorem Mst.below (h : Mst B w q l g c j b) (hb : Below w.heap.size w w') : Mst B w' q l g c j b := h.keep hb.size (hb.block q h.own.lt) (hb.block g h.ltg)
theorem Mst.took {f : A} (h : Mst B w q l g c j b) {b' : Nat} (hc : Chg q w w') (hm : Mk w' q ⟨5, 0, l.length, 0, 0⟩ (Kr.act l (j + 1) b') (some ⟨g, 0, none⟩) l.length c b') : Mst B w' q l g c (j + 1) b' :=
  ⟨h.qB, h.gB, h.ne, hm, Nat.lt_of_lt_of_le h.ltg hc.size, fun i hi => by rw [World.cell?, hc.block g h.ltg h.ne]; exact h.wds i hi⟩
end
theorem isz_act {l : List Nat} {j b : Nat} : isz (Kr.act l j b) = !Kr.more l.length j b := by
  unfold Kr.act
  cases Kr.more l.length j b with
  | false => rfl
  | true =>
    rw [if_pos rfl]
    split <;> simp [isz, eqB]
/-- Act: the next act, and whether one comes. -/
theorem kact_any {B : Nat} {w : World} {q g c j b : Nat} {l : List Nat} (h : Mst B w q l g c j b) : Calls Try.prog 82 #[.pointer (some ⟨q, 0, none⟩)] w (Gives (.tuple #[av (Kr.act l j b), .bool (Kr.more l.length j b)]) w) := by
  have := mact_any w q _ c _ _ _ _ h.own
  rwa [isz_act, Bool.not_not] at this
/-- Result: the block, once no act comes any more. -/
def kres (n j b : Nat) : Value := if Kr.more n j b = true then .tuple #[.int .u64 0, .bool false] else .tuple #[.int .u64 b, .bool true]
theorem kres_any {B : Nat} {w : World} {q g c j b : Nat} {l : List Nat} (h : Mst B w q l g c j b) : Calls Try.prog 14 #[.pointer (some ⟨q, 0, none⟩)] w (Same (kres l.length j b) w) := by
  have := mres_any w q _ c _ _ _ _ h.own
  rw [isz_act] at this
  rw [show (!isz ⟨5, 0, l.length, 0, 0⟩) = true from rfl, Bool.true_and] at this
  unfold kres
  cases hm : Kr.more l.length j b with
  | true => rw [hm] at this; exact this
  | false =>
    rw [hm] at this
    have hj : fb j b = b := by
      unfold fb
      cases j with
      | zero => simp [Kr.more] at hm
      | succ j => rfl
    rw [hj] at this
    exact this
/-- Take: one answer more. -/
theorem ktake_any {B : Nat} {w : World} {q g c j b : Nat} {l : List Nat} (h : Mst B w q l g c j b) (hl : 1 ≤ l.length) (hl2 : l.length ≤ 1000000) (v : Nat) :
    Calls Try.prog 83 #[.pointer (some ⟨q, 0, none⟩), .int .u64 (v : Int)] w fun e w' => e = .returned (.tuple #[]) ∧ Mst B w' q l g c (j + 1) (Kr.blk j b v) ∧ Chg q w w' := by
  cases hm : Kr.more l.length j b with
  | false =>
    have hz := Kr.act_none hm
    have ho := h.own
    rw [hz] at ho
    obtain ⟨i, rfl⟩ : ∃ i, j = i + 1 := by
      cases j with
      | zero => simp [Kr.more] at hm
      | succ i => exact ⟨i, rfl⟩
    refine (mtake_none w q _ c _ v _ _ ho).mono ?_
    rintro e w' ⟨rfl, hb⟩
    rw [Kr.blk_succ]
    refine ⟨rfl, h.took (f := ⟨0, 0, 0, 0, 0⟩) (Tn.of_below hb) ?_, Tn.of_below hb⟩
    rw [Kr.act_none (Kr.more_no hm)]
    exact ho.below hb
  | true =>
    cases j with
    | zero =>
      have ho := h.own
      rw [Kr.act_zero] at ho
      rw [Kr.blk_zero]
      by_cases hv : v = 0
      · subst hv
        refine (mtake_zero w q _ c _ _ ho).mono ?_
        rintro e w' ⟨rfl, h1, h2⟩
        refine ⟨rfl, h.took (f := ⟨0, 0, 0, 0, 0⟩) h2 ?_, h2⟩
        rw [Kr.act_none (by simp [Kr.more])]
        exact h1
      · refine (mtake_first w q _ c _ v (l.getD 0 0) _ hv (by omega) ⟨g, rfl, h.ne, h.ltg, h.wds 0 (by omega)⟩ ho).mono ?_
        rintro e w' ⟨rfl, h1, h2⟩
        refine ⟨rfl, h.took (f := ⟨0, 0, 0, 0, 0⟩) h2 ?_, h2⟩
        rw [Kr.act_store hv (by omega)]
        exact h1
    | succ i =>
      obtain ⟨hb, hi⟩ := Kr.more_succ.1 hm
      have ho := h.own
      rw [Kr.act_store hb hi] at ho
      rw [Kr.blk_succ]
      have hf : fb (i + 1) b = b := rfl
      rw [hf] at ho
      by_cases he : i + 1 = l.length
      · refine (mtake_last w q _ c b i (l.getD i 0) _ v he hl2 ho).mono ?_
        rintro e w' ⟨rfl, h1, h2⟩
        refine ⟨rfl, h.took (f := ⟨0, 0, 0, 0, 0⟩) h2 ?_, h2⟩
        rw [Kr.act_none (by cases h9 : Kr.more l.length (i + 1 + 1) b with | false => rfl | true => (have := (Kr.more_succ.1 h9).2; omega))]
        exact h1
      · refine (mtake_next w q _ c b i (l.getD i 0) (l.getD (i + 1) 0) _ v (by omega) hl2 ⟨g, rfl, h.ne, h.ltg, h.wds (i + 1) (by omega)⟩ ho).mono ?_
        rintro e w' ⟨rfl, h1, h2⟩
        refine ⟨rfl, h.took (f := ⟨0, 0, 0, 0, 0⟩) h2 ?_, h2⟩
        rw [Kr.act_store hb (by omega)]
        exact h1
/-- New. -/
def Makes (B : Nat) (l : List Nat) (w : World) (e : Ending) (w' : World) : Prop := ∃ q g c, e = .returned (.pointer (some ⟨q, 0, none⟩)) ∧ Mst B w' q l g c 0 0 ∧ Below w.heap.size w w'
set_option maxRecDepth 100000 in
set_option maxHeartbeats 4000000 in
theorem knew_any (k v : ByteArray) (w : World) (hk : k.size ≤ 16) (hv : v.size ≤ 24) : Calls Try.prog 12 #[.string k, .string v] w (Makes w.heap.size (Kr.bx k.data.toList v.data.toList) w) := by
  have hbd := Kr.bx_bd (k := k.data.toList) (v := v.data.toList) (by rw [ba_len]; exact hk) (by rw [ba_len]; exact hv)
  have KW := words_yes k v w hk hv
  rw [← Kr.bx_up] at KW
  generalize Kr.bx k.data.toList v.data.toList = l at *
  have HW := Lib.hid KW; clear KW
  go_enter Try.func12, Try.ntmps12
  go_wp2_with fail
  with_reducible refine HW.out.mono ?_
  rintro e w1 ⟨A, c, rfl, hs, hb, g, rfl, hg⟩
  obtain ⟨n, hn⟩ : ∃ n, n = (Kr.up l).length := ⟨_, rfl⟩
  have hs' : g < w1.heap.size ∧ ∀ i, i < l.length → w1.cell? ⟨g, i, none⟩ = some (.int .u64 ((l.getD i 0 : Nat) : Int)) := by
    rcases hs with h0 | ⟨b, off, e, hlt, hc⟩
    · have : (Kr.up l).length = 0 := by rw [h0]; rfl
      rw [Kr.up_len] at this; omega
    · injection e with e
      injection e with e1 e2
      subst e1 e2
      refine ⟨hlt, fun i hi => ?_⟩
      have := hc i (by rw [Kr.up_len]; exact hi)
      rw [Kr.up_get hi, Nat.zero_add] at this
      exact this
  rw [← hn]
  have hnl : n = l.length := by rw [hn, Kr.up_len]
  have HN := Lib.hid hnl
  have HS := Lib.hid hs'
  have HB := Lib.hid hb
  have HG := Lib.hid hg
  clear hn hs hs' hb hg HW hnl
  go_wp2
  go_ret
  have hnl := HN.out
  subst hnl
  have hb1 : Below w1.heap.size w1 (w1.alloc (.cells #[.int .i64 5, .int .u64 0, .int .i64 (l.length : Int), .int .u64 0, .int .u64 0] 29)) := (Below.refl _ _).alloc (Nat.le_refl _) _
  have hb2 : Below w1.heap.size w1 ((w1.alloc (.cells #[.int .i64 5, .int .u64 0, .int .i64 (l.length : Int), .int .u64 0, .int .u64 0] 29)).alloc (.cells #[.int .i64 5, .int .u64 0, .int .i64 (l.length : Int), .int .u64 0, .int .u64 0, .int .i64 5, .int .u64 0, .int .i64 (l.length : Int), .int .u64 0, .int .u64 0, .slice (some ⟨g, 0, none⟩) l.length c, .int .u64 0] 66)) := hb1.alloc (by simp) _
  have hz := HB.out.size
  refine ⟨w1.heap.size + 1, g, c, rfl, ⟨by omega, HG.out, by have := HS.out.1; omega, ?_, Nat.lt_of_lt_of_le HS.out.1 hb2.size, fun i hi => (hb2.cell (p := ⟨g, i, none⟩) HS.out.1).trans (HS.out.2 i hi)⟩, HB.out.trans (hb2.mono hz)⟩
  have e := heap_alloc_new (w1.alloc (.cells #[.int .i64 5, .int .u64 0, .int .i64 (l.length : Int), .int .u64 0, .int .u64 0] 29)) (.cells #[.int .i64 5, .int .u64 0, .int .i64 (l.length : Int), .int .u64 0, .int .u64 0, .int .i64 5, .int .u64 0, .int .i64 (l.length : Int), .int .u64 0, .int .u64 0, .slice (some ⟨g, 0, none⟩) l.length c, .int .u64 0] 66)
  rw [World.size_alloc] at e
  rw [Kr.act_zero]
  exact e
/-- An empty maker: of what is too long. -/
def Blank (w : World) (q : Nat) : Prop := Mk w q ⟨0, 0, 0, 0, 0⟩ ⟨0, 0, 0, 0, 0⟩ none 0 0 0
theorem knew_no (k v : ByteArray) (w : World) (hk : k.size ≤ maxLen) (hv : v.size ≤ maxLen) (h : 16 < k.size ∨ 24 < v.size) : Calls Try.prog 12 #[.string k, .string v] w fun e w' => e = .returned (.pointer (some ⟨w.heap.size, 0, none⟩)) ∧ Blank w' w.heap.size ∧ Below w.heap.size w w' := by
  have HW := Lib.hid (words_no k v w hk hv h)
  clear hk hv h
  go_enter Try.func12, Try.ntmps12
  go_wp2_with fail
  with_reducible refine HW.out.mono ?_
  rintro e w1 ⟨rfl, rfl⟩
  go_wp2
  go_ret
  exact ⟨rfl, heap_alloc_new w _, (Below.refl _ _).alloc (Nat.le_refl _) _⟩
theorem blank_act {w : World} {q : Nat} (h : Blank w q) : Calls Try.prog 82 #[.pointer (some ⟨q, 0, none⟩)] w (Gives (.tuple #[av ⟨0, 0, 0, 0, 0⟩, .bool false]) w) := mact_any w q _ _ _ _ _ _ h
theorem blank_res {w : World} {q : Nat} (h : Blank w q) : Calls Try.prog 14 #[.pointer (some ⟨q, 0, none⟩)] w (Same (.tuple #[.int .u64 0, .bool false]) w) := mres_any w q _ _ _ _ _ _ h
theorem blank_take {w : World} {q : Nat} (h : Blank w q) (v : Nat) : Calls Try.prog 83 #[.pointer (some ⟨q, 0, none⟩), .int .u64 (v : Int)] w (Gives (.tuple #[]) w) := mtake_none w q _ _ _ v _ _ h
end Go.Proofs.Ytmpoaepkfjeecaa
