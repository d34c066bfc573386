/-
  The walk of Parse. By an AI agent.
-/
import Derived.Test.YtombholjbcnncaaDoorHexaPrint
import Derived.Lib.OthersKept
namespace Go.Proofs.YtombholjbcnncaaDoor
open Go.RowKit
def bad2 : Value := .tuple #[.string ⟨#[]⟩, .int .i64 3]
def good2 (bs : List UInt8) : Value := .tuple #[.string ⟨bs.toArray⟩, .int .i64 0]
theorem own_iter {w : World} {B : Nat} {t : TypeId} {k : Nat} {v : Value} {n : Nat} {xs : List Value} (h : w.ownsRow B t k v n xs) {it : Nat} {s : ByteArray} {p : Nat} (hit : w.heap[it]? = some (.stringIter s p)) (p' : Nat) : (w.iterAt it s p').ownsRow B t k v n xs := by
  refine ⟨h.1, ?_⟩
  rcases h.2 with h0 | ⟨g, cap, cur, h1, h2, h3, h4⟩
  · exact .inl h0
  · have hne : g ≠ it := by rintro rfl; rw [hit] at h3; cases h3
    exact .inr ⟨g, cap, cur, h1, h2, (Lib.iterAt_other _ _ _ _ _ hne).trans h3, h4⟩
theorem own_ne {w : World} {B : Nat} {t : TypeId} {k : Nat} {v : Value} {n : Nat} {xs : List Value} (h : w.ownsRow B t k v n xs) {it : Nat} {s : ByteArray} {p : Nat} (hit : w.heap[it]? = some (.stringIter s p)) : some it ≠ v.ownBlock := by
  rcases h.2 with ⟨rfl, -⟩ | ⟨g, cap, cur, rfl, h2, h3, h4⟩
  · simp [Value.ownBlock]
  · intro e
    simp [Value.ownBlock] at e
    subst e
    rw [hit] at h3; cases h3
theorem or_all : ∀ a b : Fin 16, bits .or .i64 (((a.1 : Nat) : Int) * 16) ((b.1 : Nat) : Int) = ((a.1 * 16 + b.1 : Nat) : Int) := by decide +kernel
theorem i64_or16 {u n : Nat} (hu : u < 16) (hn : n < 16) : bits .or .i64 ((u : Int) * 16) (n : Int) = ((u * 16 + n : Nat) : Int) := or_all ⟨u, hu⟩ ⟨n, hn⟩
/-- A text's sign at a place, and the rune that stands there. -/
theorem rune_bad {s : ByteArray} {p : Nat} (hp : p < s.size) (h : ¬ Hx.nm (Hx.sg s.data.toList p) < 16) : ¬ Hx.nm (Utf8.decode s p).1 < 16 := by
  by_cases ha : (s[p]'hp).toNat < 128
  · rw [decode_ascii s p hp ha, ba_sg hp]; exact h
  · have := (decode_high s p hp (by omega)).1
    rw [Hx.nm_high this]; omega
theorem rune_good {s : ByteArray} {p : Nat} (hp : p < s.size) (h : Hx.nm (Hx.sg s.data.toList p) < 16) : (s[p]'hp).toNat < 128 := by
  rcases Nat.lt_or_ge (s[p]'hp).toNat 128 with h' | h'
  · exact h'
  · rw [ba_sg hp] at h'
    rw [Hx.nm_high h'] at h; omega
set_option maxHeartbeats 1000000 in
theorem parse_dash (w : World) : Calls Tryd.prog 6 #[.string ⟨#[45]⟩] w (Gives (good2 []) w) := by
  go_enter Tryd.func6, Tryd.ntmps6
  go_wp2
  go_ret2
  exact ⟨rfl, Below.refl _ _⟩
set_option maxHeartbeats 1000000 in
theorem parse_none (w : World) : Calls Tryd.prog 6 #[.string ⟨#[]⟩] w (Gives bad2 w) := by
  go_enter Tryd.func6, Tryd.ntmps6
  go_wp2
  go_ret2
  exact ⟨rfl, Below.refl _ _⟩
set_option maxHeartbeats 1000000 in
theorem parse_odd (s : ByteArray) (w : World) (h1 : (s.toList == [45]) = false) (h2 : s.toList.isEmpty = false) (h3 : ((s.size : Int) % 2 != 0) = true) : Calls Tryd.prog 6 #[.string s] w (Gives bad2 w) := by
  go_enter Tryd.func6, Tryd.ntmps6
  go_wp2
  go_ret2
  exact ⟨rfl, Below.refl _ _⟩
set_option maxRecDepth 100000 in
set_option maxHeartbeats 2000000 in
theorem parse_even (s : ByteArray) (w : World) (ht : Tab w) (hs : s.size ≤ 1099511627776) (h1 : (s.toList == [45]) = false) (h2 : s.toList.isEmpty = false) (h3 : ((s.size : Int) % 2 != 0) = false) (hev : s.size % 2 = 0)
    (v : Value) (hv : v = good2 (Hx.bytesTo s.data.toList (s.size / 2)) ∧ (∀ j, j < s.size → Hx.nm (Hx.sg s.data.toList j) < 16) ∨ v = bad2 ∧ ¬ (∀ j, j < s.size → Hx.nm (Hx.sg s.data.toList j) < 16)) :
    Calls Tryd.prog 6 #[.string s] w (Gives v w) := by
  obtain ⟨i0, hi, hz0, hz1, hz2⟩ := info_parts info_u8
  have Hz0 := Lib.hid hz0; clear hz0
  have Hz1 := Lib.hid hz1; clear hz1
  have Hz2 := Lib.hid hz2; clear hz2
  have Hi := Lib.hid hi; clear hi
  have Hv := Lib.hid hv; clear hv
  have HT := Lib.hid ht
  have hw0 := ht.lt
  clear ht
  obtain ⟨m, hm⟩ : ∃ m, s.size = 2 * m := ⟨s.size / 2, by omega⟩
  have hm2 : (s.size : Int) / 2 = (m : Int) := by omega
  have hm3 : (s.size : Int).tdiv 2 = (m : Int) := by rw [Int.tdiv_eq_ediv_of_nonneg (by omega)]; exact hm2
  have Hm := Lib.hid hm; clear hm
  have Hev := Lib.hid hev; clear hev
  go_enter Tryd.func6, Tryd.ntmps6
  go_wp2_with (with_reducible refine wpList_make_own _ rfl _ _ 30 rfl w.heap.size 5 i0 (.int .u8 0) 1 Tryd.underlying30 Hi.out Hz0.out Hz1.out .i64 .i64 (m : Int) m rfl rfl ?m1 ?m2 ?m3 ?m4 ?_)
  case m1 => rfl
  case m2 => have := Hz2.out; have := Hm.out; rw [Hz2.out]; omega
  case m3 => have := Hm.out; unfold maxLen; omega
  case m4 => omega
  intro w1 hown hgrow
  have hB1 : Below w.heap.size w w1 := (Below.refl _ _).grown hgrow (Nat.le_refl _) (fun k e => by cases e)
  have hnn : (Value.slice (some ⟨w.heap.size, 0, none⟩) 0 m) ≠ .slice none 0 0 := by simp
  clear hgrow
  obtain ⟨v0, hv0⟩ : ∃ v0, v0 = Value.slice (some ⟨w.heap.size, 0, none⟩) 0 m := ⟨_, rfl⟩
  rw [← hv0] at hown hnn ⊢
  clear hv0
  go_wp2
  obtain ⟨it, hit0⟩ : ∃ it, it = w1.heap.size := ⟨_, rfl⟩
  have hitB : w.heap.size ≤ it := by rw [hit0]; exact hB1.size
  have A1 : (w1.iter s 0).heap[it]? = some (.stringIter s 0) := by rw [hit0]; exact World.iter_heap w1 s 0
  have A2 : Below w.heap.size w (w1.iter s 0) := hB1.alloc hB1.size _
  have A3 : (w1.iter s 0).ownsRow w.heap.size 5 1 v0 0 (vals (Hx.bytesTo s.data.toList 0)) := hown.alloc _
  rw [← hit0]
  generalize w1.iter s 0 = w2 at A1 A2 A3 ⊢
  clear hown hB1 hit0
  go_loopw [4, 5, 6, 7, 8, 9] (fun v u _ _ _ _ wr => ∃ p n : Nat, p ≤ s.size ∧ u = .int .i64 (n : Int) ∧ n < 16 ∧ Hid (p % 2 = 1 → n = Hx.nm (Hx.sg s.data.toList (p - 1))) ∧ v ≠ .slice none 0 0 ∧ wr.ownsRow w.heap.size 5 1 v (p / 2) (vals (Hx.bytesTo s.data.toList (p / 2))) ∧ wr.heap[it]? = some (.stringIter s p) ∧ Below w.heap.size w wr ∧ Hid (∀ j, j < p → Hx.nm (Hx.sg s.data.toList j) < 16))
    (fun _ _ _ _ _ _ wr => s.size - wr.iterPos it)
  case atStart => exact ⟨0, 0, by omega, rfl, by omega, Lib.hid (fun h => by omega), hnn, A3, A1, A2, Lib.hid (fun j hj => by omega)⟩
  case round =>
    clear A1 A2 A3 hnn
    obtain ⟨p, n, hp, rfl, hn, HN, hnn, hown, hit, hB, HZ⟩ := hrel
    have hpos0 := iterPos_of hit
    by_cases hlt : p < s.size
    · by_cases hd : Hx.nm (Hx.sg s.data.toList p) < 16
      · have ha := rune_good hlt hd
        have hnx : ∀ ty, (Instr.next (.pointer (some ⟨it, 0, none⟩)) true ty).run Tryd.prog wr = _ := fun ty => Lib.run_next_ascii_at wr it s p ty hit hlt ha
        have hit2 := Lib.iterAt_heap wr it s p (p + 1) hit
        have hB2 := Lib.below_iterAt hB (k := it) hitB s (p + 1)
        have hown2 := own_iter hown hit (p + 1)
        rw [ba_sg hlt] at hnx
        generalize wr.iterAt it s (p + 1) = W1 at hnx hit2 hB2 hown2
        have T1 := HT.out.below hB2 hw0
        have NU := number_any (Hx.sg s.data.toList p) W1 T1
        rw [num_good hd] at NU
        have hBlt : it < W1.heap.size := (Array.getElem?_eq_some_iff.1 hit2).1
        have HNU := Lib.hid NU; clear NU T1 hown hit hB ha
        have HZ2 : Hid (∀ j, j < p + 1 → Hx.nm (Hx.sg s.data.toList j) < 16) := Lib.hid (fun j hj => by
          by_cases e : j = p
          · subst e; exact hd
          · exact HZ.out j (by omega))
        rcases Nat.mod_two_eq_zero_or_one p with hpar | hpar
        · have f1 : ((p : Int) % 2 == 0) = true := by simp; omega
          have HN2 : Hid ((p + 1) % 2 = 1 → Hx.nm (Hx.sg s.data.toList p) = Hx.nm (Hx.sg s.data.toList (p + 1 - 1))) := Lib.hid (fun _ => rfl)
          have hown3 := hown2
          rw [show p / 2 = (p + 1) / 2 by omega] at hown3
          clear hown2
          generalize Hx.sg s.data.toList p = c at hnx HNU hd HN2
          generalize Hx.nm c = d at HNU hd HN2
          go_wp2_with fail
          with_reducible refine HNU.out.mono ?_
          rintro e w3 ⟨rfl, rfl⟩
          go_wp2
          go_roundw
          case rel => exact ⟨p + 1, d, by omega, rfl, hd, HN2, hnn, hown3, hit2, hB2, HZ2⟩
          case measure => rw [iterPos_of hit2, hpos0]; omega
        · have f1 : ((p : Int) % 2 == 0) = false := by simp; omega
          obtain ⟨k, hk⟩ : ∃ k, p = 2 * k + 1 := ⟨p / 2, by omega⟩
          have hk2 : p / 2 = k := by omega
          have hn2 : n = Hx.nm (Hx.sg s.data.toList (2 * k)) := by
            have := HN.out hpar
            rwa [show p - 1 = 2 * k by omega] at this
          have hnext : vals (Hx.bytesTo s.data.toList (k + 1)) = vals (Hx.bytesTo s.data.toList k) ++ [.int .u8 ((n * 16 + Hx.nm (Hx.sg s.data.toList p) : Nat) : Int)] := by
            rw [Hx.bytesTo_succ, vals_app, ← hk, ← hn2]
            simp only [vals, List.map_cons, List.map_nil, UInt8.toNat_ofNat']
            rw [Nat.mod_eq_of_lt (by omega)]
          have Hnext := Lib.hid hnext; clear hnext
          rw [hk2] at hown2
          have hk' : k + 1 ≤ s.size := by omega
          have hkk : (p + 1) / 2 = k + 1 := by omega
          have Hkk := Lib.hid hkk; clear hkk hk2
          generalize Hx.sg s.data.toList p = c at hnx HNU hd Hnext
          generalize Hx.nm c = d at HNU hd Hnext
          have e1 := i64_or16 hn hd
          have hx : n * 16 + d < 256 := by omega
          generalize n * 16 + d = x at e1 hx Hnext
          have Hk := Lib.hid hk; clear hk
          have Hn2 := Lib.hid hn2; clear hn2
          go_wp2_with fail
          with_reducible refine HNU.out.mono ?_
          rintro e w3 ⟨rfl, rfl⟩
          go_wp2_with (at_builtin; refine wpList_append_own _ rfl _ _ 30 rfl w.heap.size 5 i0 (.int .u8 0) 1 1 Tryd.underlying30 Hi.out Hz0.out Hz1.out Hz2.out rfl (by decide) _ _ _ rfl (hown2.alloc _) ⟨_, 0, none⟩ 1 1 [.int .u8 (x : Int)] rfl rfl ?c1 ?c2 ?c3 ?c4 ?c5 ?_)
          case c1 => exact cell_one_new _ _ _
          case c2 => simp [Value.oneCell']
          case c3 => unfold maxLen; omega
          case c4 => omega
          case c5 => have := hB2.size; simp; omega
          intro v' w3 hown' hgrow hnil
          have hnn2 : v' ≠ .slice none 0 0 := hnil
          have hit3 : w3.heap[it]? = some (.stringIter s (p + 1)) := by
            rw [hgrow.block it (by simp; omega) (own_ne hown2 hit2), Below.heap_alloc _ _ _ hBlt]; exact hit2
          have hB3 : Below w.heap.size w w3 := (hB2.alloc hB2.size _).grown hgrow (by have := hB2.size; simp; omega) (fun j e => (hown2.lt j e).1)
          have hown3 : w3.ownsRow w.heap.size 5 1 v' ((p + 1) / 2) (vals (Hx.bytesTo s.data.toList ((p + 1) / 2))) := by
            rw [Hkk.out, Hnext.out]; exact hown'
          clear hown' hgrow hown2 hnil hnn
          go_wp2
          go_roundw
          case rel => exact ⟨p + 1, n, by omega, rfl, hn, Lib.hid (fun h => by omega), hnn2, hown3, hit3, hB3, HZ2⟩
          case measure => rw [iterPos_of hit3, hpos0]; omega
      · have hrb := rune_bad hlt hd
        have hnx : ∀ ty, (Instr.next (.pointer (some ⟨it, 0, none⟩)) true ty).run Tryd.prog wr = _ := fun ty => Lib.run_next_any_at wr it s p ty hit hlt
        have hB2 := Lib.below_iterAt hB (k := it) hitB s (p + (Utf8.decode s p).2)
        generalize wr.iterAt it s (p + (Utf8.decode s p).2) = W1 at hnx hB2
        generalize (Utf8.decode s p).1 = c at hnx hrb
        have T1 := HT.out.below hB2 hw0
        have NU := number_any c W1 T1
        rw [num_bad hrb] at NU
        have HNU := Lib.hid NU; clear NU T1 hown hit hB hrb
        have Hd := Lib.hid hd; clear hd
        go_wp2_with fail
        with_reducible refine HNU.out.mono ?_
        rintro e w3 ⟨rfl, rfl⟩
        go_wp2
        go_ret2
        refine ⟨?_, hB2⟩
        rcases Hv.out with ⟨-, hg⟩ | ⟨rfl, -⟩
        · exact absurd (hg p hlt) Hd.out
        · rfl
    · obtain rfl : p = s.size := by omega
      have hnx : ∀ ty, (Instr.next (.pointer (some ⟨it, 0, none⟩)) true ty).run Tryd.prog wr = _ := fun ty => Lib.run_next_end_at wr it s s.size ty hit (by omega)
      have C1 := own_conv (n := s.size / 2) (Hx.bytesTo_len _ _) hnn hown
      go_wp2
      go_ret2
      refine ⟨?_, hB⟩
      rcases Hv.out with ⟨rfl, -⟩ | ⟨-, hg⟩
      · rfl
      · exact absurd (fun j hj => HZ.out j hj) hg
theorem toList_ne {s : ByteArray} {l : List UInt8} (h : s.data.toList ≠ l) : (s.toList == l) = false := by
  rw [ByteArray.toList_eq s]
  simpa using h
theorem toList_some {s : ByteArray} (h : s.data.toList ≠ []) : s.toList.isEmpty = false := by
  rw [ByteArray.toList_eq s]
  cases h' : s.data.toList with
  | nil => exact absurd h' h
  | cons a l => rfl
theorem ba_of {s : ByteArray} {l : List UInt8} (h : s.data.toList = l) : s = ⟨l.toArray⟩ := by
  cases s with | mk d => simp at h; subst h; simp
/-- ████ Parse, of a text of some bytes. ████ -/
theorem parse_text (s : ByteArray) (w : World) (ht : Tab w) (hs : s.size ≤ 1099511627776) (h : Hx.Text s.data.toList) : Calls Tryd.prog 6 #[.string s] w (Gives (good2 (Hx.parse s.data.toList)) w) := by
  rcases h with h | g
  · rw [ba_of h]
    exact parse_dash w
  · rw [Hx.parse_good g]
    obtain ⟨g1, g2, g3⟩ := g
    rw [ba_len] at g1 g2 g3 ⊢
    refine parse_even s w ht hs (toList_ne ?_) (toList_some ?_) ?_ g2 _ (.inl ⟨rfl, g3⟩)
    · intro e
      have := congrArg List.length e
      rw [ba_len] at this
      simp at this
      omega
    · intro e
      have := congrArg List.length e
      rw [ba_len, List.length_nil] at this
      omega
    · simp; omega
/-- ████ Parse, of any other text. ████ -/
theorem parse_not (s : ByteArray) (w : World) (ht : Tab w) (hs : s.size ≤ 1099511627776) (h : ¬ Hx.Text s.data.toList) : Calls Tryd.prog 6 #[.string s] w (Gives bad2 w) := by
  have n1 : s.data.toList ≠ [45] := fun e => h (.inl e)
  by_cases h0 : s.data.toList = []
  · rw [ba_of h0]
    exact parse_none w
  · have hp : s.size ≠ 0 := by
      intro e
      rw [← ba_len] at e
      exact h0 (List.length_eq_zero_iff.1 e)
    rcases Nat.mod_two_eq_zero_or_one s.size with hpar | hpar
    · refine parse_even s w ht hs (toList_ne n1) (toList_some h0) (by simp; omega) hpar _ (.inr ⟨rfl, fun hg => ?_⟩)
      refine h (.inr ⟨?_, ?_, ?_⟩)
      · rw [ba_len]; omega
      · rw [ba_len]; exact hpar
      · rw [ba_len]; exact hg
    · exact parse_odd s w (toList_ne n1) (toList_some h0) (by simp; omega)
end Go.Proofs.YtombholjbcnncaaDoor
