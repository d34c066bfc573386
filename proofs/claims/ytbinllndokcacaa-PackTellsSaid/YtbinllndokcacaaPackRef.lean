/-
  The walk of the document's own Text. By an AI agent.
-/
import Derived.Test.YtbinllndokcacaaPackText
namespace Go.Proofs.Ytbinllndokcacaa
open Go.RowKit
theorem own_conv {l : List Int} {n m : Nat} {w wr : World} {v : Value} (hm : m = n) (hnn : v ≠ .slice none 0 0) (hown : wr.ownsRow w.heap.size 5 1 v m ((Pk.rawTo l m).map (Value.int .u8))) :
    (convert 31 9 v).run Try.prog wr = .ok (.string ⟨(Pk.txt l n).toArray⟩) wr := by
  subst hm
  rcases hown.2 with ⟨rfl, h0⟩ | ⟨g, cap, cur, rfl, _, hg, h1, h2, _⟩
  · exact absurd rfl hnn
  · refine conv_any l m m g cap wr (Nat.le_refl _) fun j hj => ?_
    rw [Pk.rawTo_len] at hj
    rw [hown.cellAt j (by omega)]
    simp [Pk.rawTo_len, hj]
set_option maxHeartbeats 1000000 in
theorem rtext_below (l : List Int) (A : Option Addr) (c : Nat) (n : Int) (w : World) (h : n < 0) : Calls Try.prog 7 #[.slice A l.length c, .int .i64 n] w (Gives none2 w) := by
  go_enter Try.func7, Try.ntmps7
  go_wp2
  go_ret2
  exact ⟨rfl, Below.refl _ _⟩
set_option maxHeartbeats 1000000 in
theorem rtext_more (l : List Int) (A : Option Addr) (c : Nat) (n : Int) (w : World) (h : 8 * (l.length : Int) < n) (hl : l.length ≤ 1099511627776) : Calls Try.prog 7 #[.slice A l.length c, .int .i64 n] w (Gives none2 w) := by
  have h' : ¬ n < 0 := by omega
  go_enter Try.func7, Try.ntmps7
  go_wp2
  go_ret2
  exact ⟨rfl, Below.refl _ _⟩
set_option maxHeartbeats 1000000 in
theorem rtext_less (l : List Int) (A : Option Addr) (c : Nat) (n : Int) (w : World) (h0 : 0 ≤ n) (h : n ≤ 8 * (l.length : Int) - 8) (hl : l.length ≤ 1099511627776) : Calls Try.prog 7 #[.slice A l.length c, .int .i64 n] w (Gives none2 w) := by
  have h' : ¬ n < 0 := by omega
  have h'' : ¬ 8 * (l.length : Int) < n := by omega
  go_enter Try.func7, Try.ntmps7
  go_wp2
  go_ret2
  exact ⟨rfl, Below.refl _ _⟩
theorem div8 {i k j : Nat} (h : i = 8 * k + j) (hj : j < 8) : ((i : Int) / 8 = k) ∧ ((i : Int) % 8 = j) ∧ (i : Int).tdiv 8 = k ∧ (i : Int).tmod 8 = j := by
  have h1 : (i : Int) / 8 = k := by omega
  have h2 : (i : Int) % 8 = j := by omega
  exact ⟨h1, h2, by rw [Int.tdiv_eq_ediv_of_nonneg (by omega)]; exact h1, by rw [Int.tmod_eq_emod_of_nonneg (by omega)]; exact h2⟩
set_option maxRecDepth 100000 in
set_option maxHeartbeats 2000000 in
theorem rtext_like (l : List Int) (A : Option Addr) (c : Nat) (n : Nat) (w : World) (hl : l.length ≤ 1099511627776) (hn8 : n ≤ 8 * l.length) (hn0 : ¬ (n : Int) ≤ 8 * (l.length : Int) - 8) (hx : ∀ x ∈ l, 0 ≤ x ∧ x ≤ 18446744073709551615) (h : Sl .u64 w w.heap.size A l)
    (v : Value) (hv : v = none2 ∧ ¬ Pk.Still l n ∨ v = some2 (Pk.txt l n) ∧ Pk.Still l n) :
    Calls Try.prog 7 #[.slice A l.length c, .int .i64 n] w (Gives v w) := by
  obtain ⟨i0, hi, hz0, hz1, hz2⟩ := info_parts info_u8
  have Hz0 := Lib.hid hz0; clear hz0
  have Hz1 := Lib.hid hz1; clear hz1
  have Hz2 := Lib.hid hz2; clear hz2
  have Hi := Lib.hid hi; clear hi
  have Hx := Lib.hid hx; clear hx
  have Hv := Lib.hid hv; clear hv
  have a1 : ¬ (n : Int) < 0 := by omega
  have a2 : ¬ 8 * (l.length : Int) < (n : Int) := by omega
  go_enter Try.func7, Try.ntmps7
  go_wp2
  go_loopw [6, 7, 8] (fun v i _ wr => ∃ k : Nat, k ≤ 8 * l.length ∧ i = .int .i64 k ∧ v ≠ .slice none 0 0 ∧ wr.ownsRow w.heap.size 5 1 v (min k n) ((Pk.rawTo l (min k n)).map (Value.int .u8)) ∧ Below w.heap.size w wr ∧ ∀ j, n ≤ j → j < k → Pk.by1 l j = 0)
    (fun _ i _ _ => 8 * l.length - (intOf i).toNat)
  case atStart => exact ⟨0, by omega, rfl, by simp, by rw [Nat.zero_min]; exact World.ownsRow_lit (size := 1) w #[] 0 (Nat.le_refl _) (by decide) (by decide), (Below.refl _ _).alloc (Nat.le_refl _) _, fun j _ hj => by omega⟩
  case round =>
    obtain ⟨i, hi, rfl, hnn, hown, hB, hz⟩ := hrel
    have HZ := Lib.hid hz; clear hz
    by_cases hlt : i < 8 * l.length
    · obtain ⟨k, j, hk, hj, hij⟩ : ∃ k j, k < l.length ∧ j < 8 ∧ i = 8 * k + j := ⟨i / 8, i % 8, by omega, by omega, by omega⟩
      obtain ⟨d1, d2, d3, d4⟩ := div8 hij hj
      have e1 : Pk.by1 l i = Ln.byt l[k] j := by1_at hk hj hij
      have E1 := Lib.hid e1; clear e1
      rcases h.below hB with rfl | ⟨b, off, rfl, hb, hc⟩
      · simp at hlt
      have g1 := hc k hk
      have hxk := Hx.out _ (List.getElem_mem hk)
      obtain ⟨hx0, hx1⟩ := hxk
      clear hc
      have hbd := Ln.byt_bd' (x := l[k]) (i := (j : Int)) (by omega) (by omega)
      have B1 := fun w => rbyte_any l[k] (j : Int) w hx0 hx1
      generalize Ln.byt l[k] (j : Int) = y at B1 E1 hbd
      have HB1 := Lib.hid B1; clear B1
      have Hij := Lib.hid hij; clear hij
      have hwr : IntKind.u8.wrap y = y := by simp [IntKind.wrap, IntKind.bits, IntKind.signed]; omega
      by_cases hin : i < n
      · go_wp2_with fail
        with_reducible refine (HB1.out _).mono ?_
        rintro e w2 ⟨rfl, rfl⟩
        go_wp2_with (at_builtin; refine wpList_append_own _ rfl _ _ 31 rfl w.heap.size 5 i0 (.int .u8 0) 1 1 Try.underlying31 Hi.out Hz0.out Hz1.out Hz2.out rfl (by decide) _ _ _ rfl (hown.alloc _) ⟨_, 0, none⟩ 1 1 [.int .u8 y] rfl rfl ?c1 ?c2 ?c3 ?c4 ?c5 ?_)
        case c1 => exact cell_one_new _ _ _
        case c2 => simp [Value.oneCell']
        case c3 => unfold maxLen; omega
        case c4 => omega
        case c5 => have := hB.size; simp; omega
        intro v' w2 hown' hgrow hnil
        have hnn2 : v' ≠ .slice none 0 0 := hnil
        have hB3 : Below w.heap.size w w2 := (hB.alloc hB.size _).grown hgrow (by have := hB.size; simp; omega) (fun j e => (hown.lt j e).1)
        have hown2 : w2.ownsRow w.heap.size 5 1 v' (min (i + 1) n) ((Pk.rawTo l (min (i + 1) n)).map (Value.int .u8)) := by
          have m1 : min (i + 1) n = i + 1 := by omega
          have m2 : min i n = i := by omega
          rw [m2] at hown'
          rw [m1, Pk.rawTo_succ, E1.out]; simpa using hown'
        clear hown' hgrow hown hnil hnn
        go_wp2
        go_roundw
        case rel => exact ⟨i + 1, by omega, by go_num, hnn2, hown2, hB3, fun j h1 h2 => by omega⟩
        case measure => simp [intOf]; omega
      · by_cases hy : y = 0
        · have hy' : (y != 0) = false := by simp [hy]
          have HY := Lib.hid hy; clear hy
          go_wp2_with fail
          with_reducible refine (HB1.out _).mono ?_
          rintro e w2 ⟨rfl, rfl⟩
          go_wp2
          go_roundw
          case rel =>
            have m1 : min (i + 1) n = min i n := by omega
            refine ⟨i + 1, by omega, by go_num, hnn, by rw [m1]; exact hown, hB, fun j h1 h2 => ?_⟩
            by_cases e : j = i
            · subst e; rw [E1.out]; exact HY.out
            · exact HZ.out j h1 (by omega)
          case measure => simp [intOf]; omega
        · have hy' : (y != 0) = true := by simp [hy]
          have HY := Lib.hid hy; clear hy
          go_wp2_with fail
          with_reducible refine (HB1.out _).mono ?_
          rintro e w2 ⟨rfl, rfl⟩
          go_wp2
          go_ret2
          refine ⟨?_, hB⟩
          rcases Hv.out with ⟨rfl, -⟩ | ⟨-, hs⟩
          · rfl
          · exact absurd (hs i (by omega) hlt) (by rw [E1.out]; exact HY.out)
    · obtain rfl : i = 8 * l.length := by omega
      have C := own_conv (l := l) (n := n) (w := w) (by omega) hnn hown
      go_wp2
      go_ret2
      refine ⟨?_, hB⟩
      rcases Hv.out with ⟨-, hs⟩ | ⟨rfl, -⟩
      · exact absurd (fun j h1 h2 => HZ.out j h1 h2) hs
      · rfl
theorem rtext_good (l : List Int) (A : Option Addr) (c : Nat) (n : Int) (w : World) (hl : l.length ≤ 1099511627776) (hx : ∀ x ∈ l, 0 ≤ x ∧ x ≤ 18446744073709551615) (h : Sl .u64 w w.heap.size A l) (hg : Pk.Good l n) :
    Calls Try.prog 7 #[.slice A l.length c, .int .i64 n] w (Gives (some2 (Pk.txt l n.toNat)) w) := by
  obtain ⟨h0, hm, hs⟩ := hg
  have hw := (Pk.many_way h0).1 hm
  obtain ⟨k, rfl⟩ := Int.eq_ofNat_of_zero_le h0
  exact rtext_like l A c k w hl (by omega) hw.2 hx h _ (.inr ⟨rfl, hs⟩)
theorem rtext_bad (l : List Int) (A : Option Addr) (c : Nat) (n : Int) (w : World) (hl : l.length ≤ 1099511627776) (hx : ∀ x ∈ l, 0 ≤ x ∧ x ≤ 18446744073709551615) (h : Sl .u64 w w.heap.size A l) (hg : ¬ Pk.Good l n) :
    Calls Try.prog 7 #[.slice A l.length c, .int .i64 n] w (Gives none2 w) := by
  by_cases h0 : n < 0
  · exact rtext_below l A c n w h0
  · by_cases h1 : 8 * (l.length : Int) < n
    · exact rtext_more l A c n w h1 hl
    · by_cases h2 : n ≤ 8 * (l.length : Int) - 8
      · exact rtext_less l A c n w (by omega) h2 hl
      · have hm := (Pk.many_way (n := n) (m := l.length) (by omega)).2 ⟨by omega, h2⟩
        obtain ⟨k, rfl⟩ := Int.eq_ofNat_of_zero_le (a := n) (by omega)
        exact rtext_like l A c k w hl (by omega) h2 hx h _ (.inl ⟨rfl, fun hs => hg ⟨by omega, hm, hs⟩⟩)
end Go.Proofs.Ytbinllndokcacaa
