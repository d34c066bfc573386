/-
  The walks of bytesOf and Text. By an AI agent.
-/
import Derived.Test.YtmpoaepkfjeecaaPackParts
namespace Go.Proofs.Ytmpoaepkfjeecaa
open Go.RowKit
/-- What is handed back is a list of bytes at the head of a row of the call's own. -/
def Raw (xs : List Int) (w : World) (e : Ending) (w' : World) : Prop :=
  ∃ g c, e = .returned (.slice (some ⟨g, 0, none⟩) xs.length c) ∧ g < w'.heap.size ∧ xs.length ≤ c ∧ c ≤ maxLen ∧ (∀ j (h : j < xs.length), w'.cell? ⟨g, j, none⟩ = some (.int .u8 xs[j])) ∧ Below w.heap.size w w'
theorem raw_of {xs : List Int} {w w' : World} {v : Value} (hrow : w'.ownsRow w.heap.size 5 1 v xs.length (xs.map (Value.int .u8))) (hnn : v ≠ .slice none 0 0) (hb : Below w.heap.size w w') : Raw xs w (.returned v) w' := by
  rcases hrow.2 with ⟨rfl, h0⟩ | ⟨g, cap, cur, rfl, _, hg, h1, h2, _⟩
  · exact absurd rfl hnn
  · refine ⟨g, cap, rfl, (Array.getElem?_eq_some_iff.1 hg).1, h1, h2, fun j hj => ?_, hb⟩
    rw [hrow.cellAt j (by omega)]
    simp [hj]
theorem by1_at {l : List Int} {k j m : Nat} (hk : k < l.length) (hj : j < 8) (hm : m = 8 * k + j) : Pk.by1 l m = Ln.byt l[k] j := by
  subst hm
  unfold Pk.by1
  have q : (8 * k + j) / 8 = k := by omega
  have r : (8 * k + j) % 8 = j := by omega
  rw [q, r, List.getD_eq_getElem?_getD, List.getElem?_eq_getElem hk]; rfl
set_option maxRecDepth 100000 in
set_option maxHeartbeats 2000000 in
theorem bytesOf_any (l : List Int) (A : Option Addr) (c : Nat) (w : World) (hl : l.length ≤ 1099511627776) (hx : ∀ x ∈ l, 0 ≤ x ∧ x ≤ 18446744073709551615) (h : Sl .u64 w w.heap.size A l) :
    Calls Try.prog 58 #[.slice A l.length c] w (Raw (Pk.rawTo l (8 * l.length)) w) := by
  obtain ⟨i0, hi, hz0, hz1, hz2⟩ := info_parts info_u8
  have Hz0 := Lib.hid hz0; clear hz0
  have Hz1 := Lib.hid hz1; clear hz1
  have Hz2 := Lib.hid hz2; clear hz2
  have Hi := Lib.hid hi; clear hi
  have Hx := Lib.hid hx; clear hx
  go_enter Try.func58, Try.ntmps58
  go_wp2_with (with_reducible refine wpList_make_own _ rfl _ _ 88 rfl w.heap.size 5 i0 (.int .u8 0) 1 Try.underlying88 Hi.out Hz0.out Hz1.out .i64 .i64 (8 * (l.length : Int)) (8 * l.length) rfl rfl ?m1 ?m2 ?m3 ?m4 ?_)
  case m1 => omega
  case m2 => have := Hz2.out; rw [this]; omega
  case m3 => unfold maxLen; omega
  case m4 => omega
  intro w1 hown hgrow
  have hB1 : Below w.heap.size w w1 := (Below.refl _ _).grown hgrow (Nat.le_refl _) (fun k e => by cases e)
  have hnn : (Value.slice (some ⟨w.heap.size, 0, none⟩) 0 (8 * l.length)) ≠ .slice none 0 0 := by simp
  clear hgrow
  obtain ⟨v0, hv0⟩ : ∃ v0, v0 = Value.slice (some ⟨w.heap.size, 0, none⟩) 0 (8 * l.length) := ⟨_, rfl⟩
  rw [← hv0] at hown hnn ⊢
  clear hv0
  go_wp2
  go_loopw [3, 5, 6, 13] (fun v _ _ i wr => ∃ k : Nat, k ≤ l.length ∧ i = .int .i64 k ∧ v ≠ .slice none 0 0 ∧ wr.ownsRow w.heap.size 5 1 v (8 * k) ((Pk.rawTo l (8 * k)).map (Value.int .u8)) ∧ Below w.heap.size w wr)
    (fun _ _ _ i _ => l.length - (intOf i).toNat)
  case atStart => exact ⟨0, by omega, rfl, hnn, hown, hB1⟩
  case round =>
    clear hown hnn hB1
    obtain ⟨k, hk, rfl, hnn, hown, hB⟩ := hrel
    by_cases hlt : k < l.length
    · rcases h.below hB with rfl | ⟨b, off, rfl, hb, hc⟩
      · simp at hlt
      have g1 := hc k hlt
      have hxk := Hx.out _ (List.getElem_mem hlt)
      obtain ⟨hx0, hx1⟩ := hxk
      clear hc
      go_wp2
      go_loopw [3, 6, 17] (fun v _ i wr2 => ∃ j : Nat, j ≤ 8 ∧ i = .int .i64 j ∧ v ≠ .slice none 0 0 ∧ wr2.ownsRow w.heap.size 5 1 v (8 * k + j) ((Pk.rawTo l (8 * k + j)).map (Value.int .u8)) ∧ Below w.heap.size w wr2)
        (fun _ _ i _ => 8 - (intOf i).toNat)
      case atStart => exact ⟨0, by omega, rfl, hnn, hown, hB⟩
      case round =>
        clear hown hnn
        obtain ⟨j, hj, rfl, hnn, hown, hB2⟩ := hrel
        by_cases hjl : j < 8
        · have hbd := Ln.byt_bd' (x := l[k]) (i := (j : Int)) (by omega) (by omega)
          have e1 : Pk.by1 l (8 * k + j) = Ln.byt l[k] j := by1_at hlt hjl rfl
          have E1 := Lib.hid e1; clear e1
          have hwr : IntKind.u8.wrap (Ln.byt l[k] (j : Int)) = Ln.byt l[k] (j : Int) := by
            simp [IntKind.wrap, IntKind.bits, IntKind.signed]; omega
          go_wp2_with (first | (go_at_call 65; refine (byte_any _ _ _ hx0 hx1).mono ?_; rintro e w' ⟨rfl, rfl⟩) | (at_builtin; refine wpList_append_own _ rfl _ _ 88 rfl w.heap.size 5 i0 (.int .u8 0) 1 1 Try.underlying88 Hi.out Hz0.out Hz1.out Hz2.out rfl (by decide) _ _ _ rfl (hown.alloc _) ⟨_, 0, none⟩ 1 1 [.int .u8 (Ln.byt l[k] (j : Int))] rfl rfl ?c1 ?c2 ?c3 ?c4 ?c5 ?_))
          case c1 => exact cell_one_new _ _ _
          case c2 => simp [Value.oneCell']
          case c3 => unfold maxLen; omega
          case c4 => omega
          case c5 => have := hB2.size; simp; omega
          intro v' w2 hown' hgrow hnil
          have hnn2 : v' ≠ .slice none 0 0 := hnil
          have hB3 : Below w.heap.size w w2 := (hB2.alloc hB2.size _).grown hgrow (by have := hB2.size; simp; omega) (fun j e => (hown.lt j e).1)
          have hown2 : w2.ownsRow w.heap.size 5 1 v' (8 * k + (j + 1)) ((Pk.rawTo l (8 * k + (j + 1))).map (Value.int .u8)) := by
            rw [← Nat.add_assoc, Pk.rawTo_succ, E1.out]; simpa using hown'
          clear hown' hgrow hown hnil hnn
          go_wp2
          go_roundw
          case rel => exact ⟨j + 1, by omega, by go_num, hnn2, hown2, hB3⟩
          case measure => simp [intOf]; omega
        · obtain rfl : j = 8 := by omega
          go_wp2
          go_roundw
          case rel => exact ⟨k + 1, by omega, by go_num, hnn, hown, hB2⟩
          case measure => simp [intOf]; omega
    · obtain rfl : k = l.length := by omega
      go_wp2
      go_ret
      refine raw_of ?_ hnn hB
      rw [Pk.rawTo_len]; exact hown
end Go.Proofs.Ytmpoaepkfjeecaa
