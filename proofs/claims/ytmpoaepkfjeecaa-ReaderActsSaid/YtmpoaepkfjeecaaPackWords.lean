/-
  The walks of Words, and of the document's own Words. By an AI agent.
-/
import Derived.Test.YtmpoaepkfjeecaaPackWord
import Derived.Laws.IdiomStrings
namespace Go.Proofs.Ytmpoaepkfjeecaa
open Go.RowKit
theorem ba_len (s : ByteArray) : s.data.toList.length = s.size := Array.length_toList
theorem ba_getElem (s : ByteArray) (k : Nat) (h : k < s.size) : s[k] = s.data.toList[k]'(by simpa using h) := by
  simp [ByteArray.getElem_eq_getElem_data]
theorem ba_bv {s : ByteArray} {k : Nat} (h : k < s.size) : (s[k].toNat : Int) = Pk.bv s.data.toList k := by
  rw [Pk.bv_in (by rw [ba_len]; exact h), ba_getElem s k h]
/-- What is handed back is a list of words. -/
def WordsOf (xs : List Int) (w : World) (e : Ending) (w' : World) : Prop := ∃ A c, e = .returned (.slice A xs.length c) ∧ Sl .u64 w' w'.heap.size A xs ∧ Below w.heap.size w w' ∧ (A = none → c = 0)
theorem wordsOf_of {xs : List Int} {n B : Nat} {w w' : World} {v : Value} (hn : n = xs.length) (hrow : w'.ownsRow B 22 1 v n (xs.map (Value.int .u64))) (hb : Below w.heap.size w w') : WordsOf xs w (.returned v) w' := by
  subst hn
  rcases hrow.2 with ⟨rfl, h0⟩ | ⟨g, cap, cur, rfl, _⟩
  · refine ⟨none, 0, by rw [h0], .inl (List.length_eq_zero_iff.1 h0), hb, fun _ => rfl⟩
  · exact ⟨_, _, rfl, Sl.of_own hrow, hb, fun h => nomatch h⟩
theorem own_below {B : Nat} {t : TypeId} {k : Nat} {v : Value} {n : Nat} {xs : List Value} {w w' : World} (h : w.ownsRow B t k v n xs) (hb : Below w.heap.size w w') : w'.ownsRow B t k v n xs := by
  refine ⟨h.1, ?_⟩
  rcases h.2 with h0 | ⟨g, cap, cur, h1, h2, h3, h4⟩
  · exact .inl h0
  · exact .inr ⟨g, cap, cur, h1, h2, (hb.block g (Array.getElem?_eq_some_iff.1 h3).1).trans h3, h4⟩
/-- The bytes of a text in memory of their own. -/
theorem bytes_any (s : ByteArray) (w : World) : ∃ C W, (convert 9 88 (.string s)).run Try.prog w = .ok (.slice (some ⟨w.heap.size, 0, none⟩) s.size C) W ∧ s.size ≤ C ∧ Below w.heap.size w W ∧ w.heap.size < W.heap.size ∧
    ∀ j, j < s.data.toList.length → W.cell? ⟨w.heap.size, j, none⟩ = some (.int .u8 (Pk.bv s.data.toList j)) := by
  refine ⟨_, _, run_bytes_of_string (P := Try.prog) w 9 88 5 s Try.underlying9 Try.underlying88 Try.underlying5, grownCap_ge _ _ _ _, ((Below.refl _ _).drew).alloc (Nat.le_refl _) _, ?_, fun j hj => ?_⟩
  · show w.heap.size < (w.heap.push _).size
    simp
  · have hj' : j < s.size := by rw [← ba_len]; exact hj
    have := World.cell?_alloc_mark w.drew (bytesRow s (grownCap w s.size 0 5)) 5 ((bytesRow s (grownCap w s.size 0 5)).size, (bytesRow s (grownCap w s.size 0 5)).size + 1) j
    rw [← ba_bv hj']
    refine Eq.trans this ?_
    have hjd : j < s.data.size := hj'
    simp [bytesRow, Array.getElem?_append]
    rw [if_pos hj', Array.getElem?_eq_getElem hjd]
    rfl
set_option maxRecDepth 100000 in
set_option maxHeartbeats 2000000 in
theorem words_any (s : ByteArray) (w : World) (hs : s.size ≤ 1099511627776) : Calls Try.prog 35 #[.string s] w (WordsOf (Pk.words s.data.toList) w) := by
  obtain ⟨i0, hi, hz0, hz1, hz2⟩ := info_parts info_u64
  have Hz0 := Lib.hid hz0; clear hz0
  have Hz1 := Lib.hid hz1; clear hz1
  have Hz2 := Lib.hid hz2; clear hz2
  have Hi := Lib.hid hi; clear hi
  obtain ⟨C, W, hconv, hC, hBW, hW, hcell⟩ := bytes_any s w
  have Hcell := Lib.hid hcell; clear hcell
  have M := fun w => many_any (s.size : Int) w (by omega) (by omega)
  rw [← Pk.cnt_many] at M
  obtain ⟨m, hm⟩ : ∃ m, m = Pk.cnt s.size := ⟨_, rfl⟩
  rw [← hm] at M
  have hm1 : s.size ≤ 8 * m ∧ 8 * m ≤ s.size + 7 := by rw [hm]; unfold Pk.cnt; omega
  have hw : Pk.words s.data.toList = Pk.wordsTo s.data.toList m := by unfold Pk.words; rw [ba_len, ← hm]
  rw [hw]
  clear hw hm
  have HM := Lib.hid M; clear M
  go_enter Try.func35, Try.ntmps35
  go_wp2_with fail
  with_reducible refine (HM.out _).mono ?_
  rintro e w1 ⟨rfl, rfl⟩
  go_wp2_with (with_reducible refine wpList_make_own _ rfl _ _ 23 rfl W.heap.size 22 i0 (.int .u64 0) 1 Try.underlying23 Hi.out Hz0.out Hz1.out .i64 .i64 (m : Int) m rfl rfl ?m1 ?m2 ?m3 ?m4 ?_)
  case m1 => rfl
  case m2 => have := Hz2.out; rw [this]; omega
  case m3 => unfold maxLen; omega
  case m4 => omega
  intro w1 hown hgrow
  have hB1 : Below W.heap.size W w1 := (Below.refl _ _).grown hgrow (Nat.le_refl _) (fun k e => by cases e)
  clear hgrow
  obtain ⟨v0, hv0⟩ : ∃ v0, v0 = Value.slice (some ⟨W.heap.size, 0, none⟩) 0 m := ⟨_, rfl⟩
  rw [← hv0] at hown ⊢
  clear hv0
  go_wp2
  go_loopw [4, 5] (fun v i wr => ∃ k n : Nat, n = 8 * k ∧ k ≤ m ∧ i = .int .i64 (n : Int) ∧ wr.ownsRow W.heap.size 22 1 v k ((Pk.wordsTo s.data.toList k).map (Value.int .u64)) ∧ Below W.heap.size W wr)
    (fun _ i _ => 8 * m - (intOf i).toNat)
  case atStart => exact ⟨0, 0, rfl, by omega, rfl, hown, hB1⟩
  case round =>
    clear hown hB1
    obtain ⟨k, n, hn, hk, rfl, hown, hB⟩ := hrel
    by_cases hlt : n < s.size
    · have hbs : w.heap.size < wr.heap.size := Nat.lt_of_lt_of_le hW hB.size
      have WO : Calls Try.prog 45 #[.slice (some ⟨w.heap.size, 0, none⟩) s.size C, .int .i64 (n : Int)] wr (Gives (.int .u64 (Pk.wto s.data.toList n 8)) wr) := by
        have := wordOf_any s.data.toList n w.heap.size C wr (by rw [ba_len]; exact hs) (by rw [ba_len]; exact hC) (by rw [ba_len]; exact hlt) hbs (fun j hj => (hB.cell (p := ⟨w.heap.size, j, none⟩) hW).trans (Hcell.out j hj))
        rwa [ba_len] at this
      have hnx : Pk.wordsTo s.data.toList (k + 1) = Pk.wordsTo s.data.toList k ++ [Pk.wto s.data.toList n 8] := by rw [Pk.wordsTo_succ, hn]
      have Hnx := Lib.hid hnx; clear hnx
      have HWO := Lib.hid WO; clear WO
      have Hn := Lib.hid hn; clear hn
      go_wp2_with fail
      with_reducible refine HWO.out.mono ?_
      rintro e w2 ⟨rfl, hb2⟩
      have hB2 : Below W.heap.size W w2 := hB.trans (hb2.mono hB.size)
      have hown2 : w2.ownsRow W.heap.size 22 1 _ k ((Pk.wordsTo s.data.toList k).map (Value.int .u64)) := own_below hown hb2
      clear hown hb2
      go_wp2_with (at_builtin; refine wpList_append_own _ rfl _ _ 23 rfl W.heap.size 22 i0 (.int .u64 0) 1 8 Try.underlying23 Hi.out Hz0.out Hz1.out Hz2.out rfl (by decide) _ _ _ rfl (hown2.alloc _) ⟨_, 0, none⟩ 1 1 [.int .u64 (Pk.wto s.data.toList n 8)] rfl rfl ?c1 ?c2 ?c3 ?c4 ?c5 ?_)
      case c1 => exact cell_one_new _ _ _
      case c2 => simp [Value.oneCell']
      case c3 => unfold maxLen; omega
      case c4 => omega
      case c5 => have := hB2.size; simp; omega
      intro v' w3 hown' hgrow _
      have hB3 : Below W.heap.size W w3 := (hB2.alloc hB2.size _).grown hgrow (by have := hB2.size; simp; omega) (fun j e => (hown2.lt j e).1)
      have hown3 : w3.ownsRow W.heap.size 22 1 v' (k + 1) ((Pk.wordsTo s.data.toList (k + 1)).map (Value.int .u64)) := by
        rw [Hnx.out]; simpa using hown'
      clear hown' hgrow hown2
      go_wp2
      go_roundw
      case rel => exact ⟨k + 1, n + 8, by have := Hn.out; omega, by have := Hn.out; omega, by go_num, hown3, hB3⟩
      case measure => have := Hn.out; simp [intOf]; omega
    · obtain rfl : k = m := by omega
      go_wp2
      go_ret
      exact wordsOf_of (Pk.wordsTo_len _ _).symm hown (hBW.trans (hB.mono hBW.size))
end Go.Proofs.Ytmpoaepkfjeecaa
