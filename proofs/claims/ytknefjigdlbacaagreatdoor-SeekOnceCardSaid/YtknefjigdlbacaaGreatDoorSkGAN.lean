/-
  Several texts in one: The walks of the document's own answers for bytes: Byte, Word, Bytes, With; The walks of Many, allZero, of the document's own Many, and of the comparison of two lists of words; The walks of bytesOf and Text; The walk of Text. By an AI agent.
-/
import Derived.Test.YtknefjigdlbacaaGreatDoorSkGAM
import Derived.Test.YtknefjigdlbacaaGreatDoorSkGAE
import Derived.Test.YtknefjigdlbacaaGreatDoorSkGAB
import Derived.OwnWalk
import Derived.Maps.AppendAt
import Derived.Laws.OwnMore
import Derived.Laws.IdiomStrings
import Derived.Laws.BytesArg
namespace Go.Proofs.YtknefjigdlbacaaGreatDoor
open Go.RowKit
set_option maxHeartbeats 1000000 in
theorem rbyte_any (x i : Int) (w : World) (hx0 : 0 ≤ x) (hx1 : x ≤ 18446744073709551615) : Calls Tryz.prog 104 #[.int .u64 x, .int .i64 i] w fun e w' => e = .returned (.int .i64 (Ln.byt x i)) ∧ w = w' := by
  by_cases h : 0 ≤ i ∧ i < 8
  · obtain ⟨h0, h1⟩ := h
    have h2 : ¬ i < 0 := by omega
    have h3 : ¬ 7 < i := by omega
    go_enter Tryz.func104, Tryz.ntmps104
    go_wp2
    go_loop [0, 5] (fun u c => ∃ k : Nat, (k : Int) ≤ i ∧ c = .int .i64 k ∧ u = .int .u64 (x / 256 ^ k)) (fun _ c => (i - intOf c).toNat)
    case atStart => exact ⟨0, by omega, rfl, by simp⟩
    case round =>
      obtain ⟨k, hk, rfl, rfl⟩ := hrel
      have hp : 0 ≤ x / 256 ^ k := Int.ediv_nonneg hx0 (Int.le_of_lt (Int.pow_pos (by omega)))
      have hp1 : x / 256 ^ k ≤ 18446744073709551615 := Int.le_trans (Int.ediv_le_self _ hx0) hx1
      by_cases hlt : (k : Int) < i
      · go_wp2
        go_round
        case rel => exact ⟨k + 1, by omega, by go_num, by rw [Int.pow_succ, Int.ediv_ediv_of_nonneg (Int.le_of_lt (Int.pow_pos (by omega)))]⟩
        case measure => simp [intOf]; omega
      · obtain rfl : i = k := by omega
        go_wp2
        go_ret
        refine ⟨ret_int ?_, rfl⟩
        rw [Ln.byt_in h0 h1]
        simp
  · have h' : i < 0 ∨ 8 ≤ i := by omega
    rcases h' with h' | h'
    · go_enter Tryz.func104, Tryz.ntmps104
      go_wp2
      go_ret
      exact ⟨ret_int (Ln.byt_out (.inl h')).symm, rfl⟩
    · have h2 : ¬ i < 0 := by omega
      have h3 : 7 < i := by omega
      go_enter Tryz.func104, Tryz.ntmps104
      go_wp2
      go_ret
      exact ⟨ret_int (Ln.byt_out (.inr h')).symm, rfl⟩
set_option maxRecDepth 100000 in
set_option maxHeartbeats 2000000 in
theorem rbytes_any (x : Int) (w : World) (hx0 : 0 ≤ x) (hx1 : x ≤ 18446744073709551615) : Calls Tryz.prog 137 #[.int .u64 x] w fun e w' => e = .returned (.agg #[.int .i64 (Ln.byt x 0), .int .i64 (Ln.byt x 1), .int .i64 (Ln.byt x 2), .int .i64 (Ln.byt x 3), .int .i64 (Ln.byt x 4), .int .i64 (Ln.byt x 5), .int .i64 (Ln.byt x 6), .int .i64 (Ln.byt x 7)]) ∧ Below w.heap.size w w' := by
  go_enter Tryz.func137, Tryz.ntmps137
  go_wp2
  refine wp_loop_rounds 9 ?_
  iterate 8
    rw [rounds_succ]
    go_wp2_with (go_at_call 104; refine (rbyte_any _ _ _ hx0 hx1).mono ?_; rintro e w' ⟨rfl, rfl⟩)
  rw [rounds_succ]
  go_wp2
  exact bodyPost_ret (v := .agg #[.int .i64 (Ln.byt x 0), .int .i64 (Ln.byt x 1), .int .i64 (Ln.byt x 2), .int .i64 (Ln.byt x 3), .int .i64 (Ln.byt x 4), .int .i64 (Ln.byt x 5), .int .i64 (Ln.byt x 6), .int .i64 (Ln.byt x 7)]) (by simp [results, Tryz.results137, go_sem]) rfl ⟨rfl, ((Below.refl _ _).alloc (Nat.le_refl _) _).alloc (by simp) _⟩
theorem wrd8 (b0 b1 b2 b3 b4 b5 b6 b7 : Int) : Ln.wrd [b0, b1, b2, b3, b4, b5, b6, b7] = ((((((((0 * 256 + b7) * 256 + b6) * 256 + b5) * 256 + b4) * 256 + b3) * 256 + b2) * 256 + b1) * 256 + b0) := rfl
set_option maxRecDepth 100000 in
set_option maxHeartbeats 2000000 in
theorem rword_any (b0 b1 b2 b3 b4 b5 b6 b7 : Int) (w : World) (h0 : 0 ≤ b0 ∧ b0 ≤ 255) (h1 : 0 ≤ b1 ∧ b1 ≤ 255) (h2 : 0 ≤ b2 ∧ b2 ≤ 255) (h3 : 0 ≤ b3 ∧ b3 ≤ 255) (h4 : 0 ≤ b4 ∧ b4 ≤ 255) (h5 : 0 ≤ b5 ∧ b5 ≤ 255) (h6 : 0 ≤ b6 ∧ b6 ≤ 255) (h7 : 0 ≤ b7 ∧ b7 ≤ 255) :
    Calls Tryz.prog 138 #[.agg #[.int .i64 b0, .int .i64 b1, .int .i64 b2, .int .i64 b3, .int .i64 b4, .int .i64 b5, .int .i64 b6, .int .i64 b7]] w fun e w' => e = .returned (.int .u64 (Ln.wrd [b0, b1, b2, b3, b4, b5, b6, b7])) ∧ Below w.heap.size w w' := by
  go_enter Tryz.func138, Tryz.ntmps138
  go_wp2
  refine wp_loop_rounds 9 ?_
  iterate 8
    rw [rounds_succ]
    go_wp2
  rw [rounds_succ]
  go_wp2
  go_ret
  refine ⟨ret_int ?_, (Below.refl _ _).alloc (Nat.le_refl _) _⟩
  rw [wrd8]
  omega
theorem bts8 (x : Int) : Ln.bts x = [Ln.byt x 0, Ln.byt x 1, Ln.byt x 2, Ln.byt x 3, Ln.byt x 4, Ln.byt x 5, Ln.byt x 6, Ln.byt x 7] := by simp [Ln.bts, List.range, List.range.loop]
set_option maxRecDepth 100000 in
set_option maxHeartbeats 4000000 in
theorem rwith_in (x i b : Int) (w : World) (hx0 : 0 ≤ x) (hx1 : x ≤ 18446744073709551615) (h0 : 0 ≤ i) (h1 : i < 8) (b0 : 0 ≤ b) (b1 : b ≤ 255) : Calls Tryz.prog 105 #[.int .u64 x, .int .i64 i, .int .i64 b] w fun e w' => e = .returned (.int .u64 (Ln.wth x i b)) ∧ Below w.heap.size w w' := by
  have hw := Ln.wrd_set hx0 hx1 h0 h1 b0 b1
  rw [bts8] at hw
  have Hw := Lib.hid hw; clear hw
  have c0 := Ln.byt_bd' (x := x) (i := 0) (by omega) (by omega)
  have c1 := Ln.byt_bd' (x := x) (i := 1) (by omega) (by omega)
  have c2 := Ln.byt_bd' (x := x) (i := 2) (by omega) (by omega)
  have c3 := Ln.byt_bd' (x := x) (i := 3) (by omega) (by omega)
  have c4 := Ln.byt_bd' (x := x) (i := 4) (by omega) (by omega)
  have c5 := Ln.byt_bd' (x := x) (i := 5) (by omega) (by omega)
  have c6 := Ln.byt_bd' (x := x) (i := 6) (by omega) (by omega)
  have c7 := Ln.byt_bd' (x := x) (i := 7) (by omega) (by omega)
  rcases Ln.eight h0 h1 with rfl | rfl | rfl | rfl | rfl | rfl | rfl | rfl
  all_goals
    go_enter Tryz.func105, Tryz.ntmps105
    go_wp2_with fail
    with_reducible refine (rbytes_any _ _ hx0 hx1).mono ?_
    rintro e w1 ⟨rfl, hb1⟩
    go_wp2_with fail
    with_reducible refine (rword_any _ _ _ _ _ _ _ _ _ ?_ ?_ ?_ ?_ ?_ ?_ ?_ ?_).mono ?_
    iterate 8 (first | assumption | exact ⟨b0, b1⟩)
    rintro e w2 ⟨rfl, hb2⟩
    go_wp2
    go_ret
    exact ⟨ret_int Hw.out, below_then (hb1.alloc hb1.size _) hb2⟩
theorem rwith_any (x i b : Int) (w : World) (hx0 : 0 ≤ x) (hx1 : x ≤ 18446744073709551615) : Calls Tryz.prog 105 #[.int .u64 x, .int .i64 i, .int .i64 b] w fun e w' => e = .returned (.int .u64 (Ln.wth x i b)) ∧ Below w.heap.size w w' := by
  by_cases h : 0 ≤ i
  · have h' : ¬ i < 0 := by omega
    by_cases h2 : 7 < i
    · go_enter Tryz.func105, Tryz.ntmps105
      go_wp2
      go_ret
      exact ⟨ret_int (Ln.wth_out (.inl (by omega))).symm, Below.refl _ _⟩
    · by_cases h3 : b < 0
      · go_enter Tryz.func105, Tryz.ntmps105
        go_wp2
        go_ret
        exact ⟨ret_int (Ln.wth_out (.inr (by omega))).symm, Below.refl _ _⟩
      · by_cases h4 : 255 < b
        · go_enter Tryz.func105, Tryz.ntmps105
          go_wp2
          go_ret
          exact ⟨ret_int (Ln.wth_out (.inr (by omega))).symm, Below.refl _ _⟩
        · exact rwith_in x i b w hx0 hx1 h (by omega) (by omega) (by omega)
  · have h' : i < 0 := by omega
    go_enter Tryz.func105, Tryz.ntmps105
    go_wp2
    go_ret
    exact ⟨ret_int (Ln.wth_out (.inl (by omega))).symm, Below.refl _ _⟩
end Go.Proofs.YtknefjigdlbacaaGreatDoor
namespace Go.Proofs.YtknefjigdlbacaaGreatDoor
open Go.RowKit
/-- A slice's address under which the numbers xs lie, below block B. -/
def Sl (k : IntKind) (w : World) (B : Nat) (A : Option Addr) (xs : List Int) : Prop :=
  xs = [] ∨ ∃ b off, A = some ⟨b, off, none⟩ ∧ b < B ∧ ∀ j (h : j < xs.length), w.cell? ⟨b, off + j, none⟩ = some (.int k xs[j])
theorem Sl.below {k : IntKind} {w w' : World} {B : Nat} {A : Option Addr} {xs : List Int} (h : Sl k w B A xs) (hb : Below B w w') : Sl k w' B A xs := by
  rcases h with h | ⟨b, off, rfl, hlt, hc⟩
  · exact .inl h
  · exact .inr ⟨b, off, rfl, hlt, fun j hj => (hb.cell (p := ⟨b, off + j, none⟩) hlt).trans (hc j hj)⟩
theorem Sl.mono {k : IntKind} {w : World} {B B' : Nat} {A : Option Addr} {xs : List Int} (h : Sl k w B A xs) (hb : B ≤ B') : Sl k w B' A xs := by
  rcases h with h | ⟨b, off, rfl, hlt, hc⟩
  · exact .inl h
  · exact .inr ⟨b, off, rfl, by omega, hc⟩
theorem Sl.of_own {k : IntKind} {t : TypeId} {w : World} {base n : Nat} {A : Option Addr} {c : Nat} {xs : List Int} (h : w.ownsRow base t 1 (.slice A n c) n (xs.map (Value.int k))) : Sl k w w.heap.size A xs := by
  rcases h.2 with ⟨hv, rfl⟩ | ⟨g, cap, cur, hv, _, hg, _⟩
  · have := h.1; simp at this; exact .inl this
  · simp only [Value.slice.injEq] at hv
    obtain ⟨rfl, -, rfl⟩ := hv
    refine .inr ⟨g, 0, rfl, (Array.getElem?_eq_some_iff.1 hg).1, fun j hj => ?_⟩
    have hl := h.1
    simp at hl
    rw [Nat.zero_add, h.cellAt j (by omega)]
    simp [hj]
theorem info_u8 : (Tryz.prog.info? 5).map (fun i => (i.zero, i.size, i.bytes)) = some (some (.int .u8 0), 1, 1) := by kernel_rfl
set_option maxHeartbeats 1000000 in
theorem many_any (n : Int) (w : World) (h0 : -9223372036854775808 ≤ n) (h1 : n ≤ 9223372036854775807) : Calls Tryz.prog 156 #[.int .i64 n] w (Same (.int .i64 (Pk.many n)) w) := by
  by_cases h : n ≤ 0
  · go_enter Tryz.func156, Tryz.ntmps156
    go_wp2
    go_ret
    exact ⟨ret_int (Pk.many_le h).symm, rfl⟩
  · have h' : 0 < n := by omega
    go_enter Tryz.func156, Tryz.ntmps156
    go_wp2
    go_ret
    refine ⟨ret_int ?_, rfl⟩
    rw [Pk.many_pos h']
set_option maxHeartbeats 1000000 in
theorem rmany_any (n : Int) (w : World) (h0 : -9223372036854775808 ≤ n) (h1 : n ≤ 9223372036854775807) : Calls Tryz.prog 159 #[.int .i64 n] w (Same (.int .i64 (Pk.many n)) w) := by
  have hbn := Pk.many_bd (n := n)
  have hM : Pk.many n ≤ 1152921504606846976 := by split at hbn <;> omega
  have HM := Lib.hid hM; clear hM hbn
  go_enter Tryz.func159, Tryz.ntmps159
  go_wp2
  go_loop [0, 3] (fun a k => ∃ (m : Int) (j : Nat), a = .int .i64 m ∧ k = .int .i64 j ∧ -9223372036854775808 ≤ m ∧ m ≤ n ∧ Pk.many n = Pk.many m + j) (fun a _ => (intOf a).toNat)
  case atStart => exact ⟨n, 0, rfl, rfl, h0, Int.le_refl _, by omega⟩
  case round =>
    obtain ⟨m, j, rfl, rfl, hm0, hm1, he⟩ := hrel
    have hj : (j : Int) ≤ 1152921504606846976 := by have := HM.out; have := (Pk.many_bd (n := m)).1; omega
    have He := Lib.hid he; clear he
    by_cases hp : 0 < m
    · go_wp2
      go_round
      case rel => exact ⟨m - 8, j + 1, by go_num, by go_num, by omega, by omega, by have := He.out; have := Pk.many_next hp; omega⟩
      case measure => simp [intOf]; omega
    · go_wp2
      go_ret
      refine ⟨ret_int ?_, rfl⟩
      have := He.out
      rw [Pk.many_le (n := m) (by omega)] at this
      omega
/-- What allZero answers. -/
def Zeros (xs : List Int) (w : World) (e : Ending) (w' : World) : Prop := ∃ t, e = .returned (.bool t) ∧ (t = true ↔ ∀ j (h : j < xs.length), xs[j] = 0) ∧ w = w'
set_option maxHeartbeats 1000000 in
theorem zero_any (xs : List Int) (A : Option Addr) (c : Nat) (w : World) (hl : xs.length ≤ 9223372036854775807) (h : Sl .u8 w w.heap.size A xs) : Calls Tryz.prog 169 #[.slice A xs.length c] w (Zeros xs w) := by
  go_enter Tryz.func169, Tryz.ntmps169
  go_wp2
  go_loop [4, 7] (fun _ i => ∃ k : Nat, k ≤ xs.length ∧ i = .int .i64 k ∧ ∀ j (h : j < xs.length), j < k → xs[j] = 0) (fun _ i => xs.length - (intOf i).toNat)
  case atStart => exact ⟨0, by omega, rfl, fun j _ hj => by omega⟩
  case round =>
    obtain ⟨k, hk, rfl, hz⟩ := hrel
    have Hz := Lib.hid hz; clear hz
    by_cases hlt : k < xs.length
    · rcases h with rfl | ⟨b, off, rfl, hb, hc⟩
      · simp at hlt
      have g1 := hc k hlt
      clear hc
      by_cases h0 : xs[k] = 0
      · have h0' : (xs[k] != 0) = false := by simp [h0]
        have H0 := Lib.hid h0; clear h0
        go_wp2
        go_round
        case rel =>
          refine ⟨k + 1, by omega, by go_num, fun j hj hjk => ?_⟩
          by_cases e : j = k
          · subst e; exact H0.out
          · exact Hz.out j hj (by omega)
        case measure => simp [intOf]; omega
      · have h0' : (xs[k] != 0) = true := by simp [h0]
        have H0 := Lib.hid h0; clear h0
        go_wp2
        go_ret
        exact ⟨false, rfl, ⟨fun h => (by cases h), fun h => absurd (h k hlt) H0.out⟩, rfl⟩
    · obtain rfl : k = xs.length := by omega
      go_wp2
      go_ret
      exact ⟨true, rfl, ⟨fun _ j hj => Hz.out j hj hj, fun _ => rfl⟩, rfl⟩
end Go.Proofs.YtknefjigdlbacaaGreatDoor
namespace Go.Proofs.YtknefjigdlbacaaGreatDoor
open Go.RowKit
/-- What is handed back is a list of bytes at the head of a row of the call's own. -/
def Raw (xs : List Int) (w : World) (e : Ending) (w' : World) : Prop :=
  ∃ g c, e = .returned (.slice (some ⟨g, 0, none⟩) xs.length c) ∧ g < w'.heap.size ∧ xs.length ≤ c ∧ c ≤ maxLen ∧ (∀ j (h : j < xs.length), w'.cell? ⟨g, j, none⟩ = some (.int .u8 xs[j])) ∧ Below w.heap.size w w'
theorem raw_of {xs : List Int} {w w' : World} {v : Value} (hrow : w'.ownsRow w.heap.size 5 1 v xs.length (xs.map (Value.int .u8))) (hnn : v ≠ .slice none 0 0) (hb : Below w.heap.size w w') : Raw xs w (.returned v) w' := by
  rcases hrow.2 with ⟨rfl, h0⟩ | ⟨g, cap, cur, rfl, _, hg, h1, h2, _⟩
  · exact absurd rfl hnn
  · refine ⟨g, cap, rfl, (Array.getElem?_eq_some_iff.1 hg).1, h1, h2, fun j hj => ?_, hb⟩
    rw [hrow.cellAt j (by omega)]
    simp [hj]
theorem by1_at {l : List Int} {k j m : Nat} (hk : k < l.length) (hj : j < 8) (hm : m = 8 * k + j) : Pk.by1 l m = Ln.byt l[k] j := by
  subst hm
  unfold Pk.by1
  have q : (8 * k + j) / 8 = k := by omega
  have r : (8 * k + j) % 8 = j := by omega
  rw [q, r, List.getD_eq_getElem?_getD, List.getElem?_eq_getElem hk]; rfl
set_option maxRecDepth 100000 in
set_option maxHeartbeats 2000000 in
theorem bytesOf_any (l : List Int) (A : Option Addr) (c : Nat) (w : World) (hl : l.length ≤ 1099511627776) (hx : ∀ x ∈ l, 0 ≤ x ∧ x ≤ 18446744073709551615) (h : Sl .u64 w w.heap.size A l) :
    Calls Tryz.prog 168 #[.slice A l.length c] w (Raw (Pk.rawTo l (8 * l.length)) w) := by
  obtain ⟨i0, hi, hz0, hz1, hz2⟩ := info_parts info_u8
  have Hz0 := Lib.hid hz0; clear hz0
  have Hz1 := Lib.hid hz1; clear hz1
  have Hz2 := Lib.hid hz2; clear hz2
  have Hi := Lib.hid hi; clear hi
  have Hx := Lib.hid hx; clear hx
  go_enter Tryz.func168, Tryz.ntmps168
  go_wp2_with (with_reducible refine wpList_make_own _ rfl _ _ 67 rfl w.heap.size 5 i0 (.int .u8 0) 1 Tryz.underlying67 Hi.out Hz0.out Hz1.out .i64 .i64 (8 * (l.length : Int)) (8 * l.length) rfl rfl ?m1 ?m2 ?m3 ?m4 ?_)
  case m1 => omega
  case m2 => have := Hz2.out; rw [this]; omega
  case m3 => unfold maxLen; omega
  case m4 => omega
  intro w1 hown hgrow
  have hB1 : Below w.heap.size w w1 := (Below.refl _ _).grown hgrow (Nat.le_refl _) (fun k e => by cases e)
  have hnn : (Value.slice (some ⟨w.heap.size, 0, none⟩) 0 (8 * l.length)) ≠ .slice none 0 0 := by simp
  clear hgrow
  obtain ⟨v0, hv0⟩ : ∃ v0, v0 = Value.slice (some ⟨w.heap.size, 0, none⟩) 0 (8 * l.length) := ⟨_, rfl⟩
  rw [← hv0] at hown hnn ⊢
  clear hv0
  go_wp2
  go_loopw [3, 5, 6, 13] (fun v _ _ i wr => ∃ k : Nat, k ≤ l.length ∧ i = .int .i64 k ∧ v ≠ .slice none 0 0 ∧ wr.ownsRow w.heap.size 5 1 v (8 * k) ((Pk.rawTo l (8 * k)).map (Value.int .u8)) ∧ Below w.heap.size w wr)
    (fun _ _ _ i _ => l.length - (intOf i).toNat)
  case atStart => exact ⟨0, by omega, rfl, hnn, hown, hB1⟩
  case round =>
    clear hown hnn hB1
    obtain ⟨k, hk, rfl, hnn, hown, hB⟩ := hrel
    by_cases hlt : k < l.length
    · rcases h.below hB with rfl | ⟨b, off, rfl, hb, hc⟩
      · simp at hlt
      have g1 := hc k hlt
      have hxk := Hx.out _ (List.getElem_mem hlt)
      obtain ⟨hx0, hx1⟩ := hxk
      clear hc
      go_wp2
      go_loopw [3, 6, 17] (fun v _ i wr2 => ∃ j : Nat, j ≤ 8 ∧ i = .int .i64 j ∧ v ≠ .slice none 0 0 ∧ wr2.ownsRow w.heap.size 5 1 v (8 * k + j) ((Pk.rawTo l (8 * k + j)).map (Value.int .u8)) ∧ Below w.heap.size w wr2)
        (fun _ _ i _ => 8 - (intOf i).toNat)
      case atStart => exact ⟨0, by omega, rfl, hnn, hown, hB⟩
      case round =>
        clear hown hnn
        obtain ⟨j, hj, rfl, hnn, hown, hB2⟩ := hrel
        by_cases hjl : j < 8
        · have hbd := Ln.byt_bd' (x := l[k]) (i := (j : Int)) (by omega) (by omega)
          have e1 : Pk.by1 l (8 * k + j) = Ln.byt l[k] j := by1_at hlt hjl rfl
          have E1 := Lib.hid e1; clear e1
          have hwr : IntKind.u8.wrap (Ln.byt l[k] (j : Int)) = Ln.byt l[k] (j : Int) := by
            simp [IntKind.wrap, IntKind.bits, IntKind.signed]; omega
          go_wp2_with (first | (go_at_call 124; refine (byte_any _ _ _ hx0 hx1).mono ?_; rintro e w' ⟨rfl, rfl⟩) | (at_builtin; refine wpList_append_own _ rfl _ _ 67 rfl w.heap.size 5 i0 (.int .u8 0) 1 1 Tryz.underlying67 Hi.out Hz0.out Hz1.out Hz2.out rfl (by decide) _ _ _ rfl (hown.alloc _) ⟨_, 0, none⟩ 1 1 [.int .u8 (Ln.byt l[k] (j : Int))] rfl rfl ?c1 ?c2 ?c3 ?c4 ?c5 ?_))
          case c1 => exact cell_one_new _ _ _
          case c2 => simp [Value.oneCell']
          case c3 => unfold maxLen; omega
          case c4 => omega
          case c5 => have := hB2.size; simp; omega
          intro v' w2 hown' hgrow hnil
          have hnn2 : v' ≠ .slice none 0 0 := hnil
          have hB3 : Below w.heap.size w w2 := (hB2.alloc hB2.size _).grown hgrow (by have := hB2.size; simp; omega) (fun j e => (hown.lt j e).1)
          have hown2 : w2.ownsRow w.heap.size 5 1 v' (8 * k + (j + 1)) ((Pk.rawTo l (8 * k + (j + 1))).map (Value.int .u8)) := by
            rw [← Nat.add_assoc, Pk.rawTo_succ, E1.out]; simpa using hown'
          clear hown' hgrow hown hnil hnn
          go_wp2
          go_roundw
          case rel => exact ⟨j + 1, by omega, by go_num, hnn2, hown2, hB3⟩
          case measure => simp [intOf]; omega
        · obtain rfl : j = 8 := by omega
          go_wp2
          go_roundw
          case rel => exact ⟨k + 1, by omega, by go_num, hnn, hown, hB2⟩
          case measure => simp [intOf]; omega
    · obtain rfl : k = l.length := by omega
      go_wp2
      go_ret
      refine raw_of ?_ hnn hB
      rw [Pk.rawTo_len]; exact hown
end Go.Proofs.YtknefjigdlbacaaGreatDoor
namespace Go.Proofs.YtknefjigdlbacaaGreatDoor
open Go.RowKit
def none2 : Value := .tuple #[.string ⟨#[]⟩, .bool false]
def some2 (bs : List UInt8) : Value := .tuple #[.string ⟨bs.toArray⟩, .bool true]
set_option maxHeartbeats 1000000 in
theorem text_below (l : List Int) (A : Option Addr) (c : Nat) (n : Int) (w : World) (h : n < 0) : Calls Tryz.prog 167 #[.slice A l.length c, .int .i64 n] w (Gives none2 w) := by
  go_enter Tryz.func167, Tryz.ntmps167
  go_wp2
  go_ret2
  exact ⟨rfl, Below.refl _ _⟩
set_option maxHeartbeats 1000000 in
theorem text_unlike (l : List Int) (A : Option Addr) (c : Nat) (n : Int) (w : World) (h : 0 ≤ n) (h1 : n ≤ 9223372036854775807) (hm : ¬ Pk.many n = l.length) : Calls Tryz.prog 167 #[.slice A l.length c, .int .i64 n] w (Gives none2 w) := by
  have h' : ¬ n < 0 := by omega
  have M := fun w => many_any n w (by omega) h1
  have hne : (Pk.many n != (l.length : Int)) = true := by simpa using hm
  generalize Pk.many n = m at M hne
  have HM := Lib.hid M; clear M
  clear hm
  go_enter Tryz.func167, Tryz.ntmps167
  go_wp2_with fail
  with_reducible refine (HM.out _).mono ?_
  rintro e w1 ⟨rfl, rfl⟩
  go_wp2
  go_ret2
  exact ⟨rfl, Below.refl _ _⟩
/-- The bytes behind the n-th one, asked. -/
theorem tail_any (l : List Int) (n g off cc : Nat) (w : World) (hl : l.length ≤ 1099511627776) (hn : n ≤ 8 * l.length) (hg : g < w.heap.size) (ho : off = n ∨ 8 * l.length ≤ n)
    (hc : ∀ j (h : j < (Pk.rawTo l (8 * l.length)).length), w.cell? ⟨g, j, none⟩ = some (.int .u8 (Pk.rawTo l (8 * l.length))[j])) (t : Bool) (ht : t = true ↔ Pk.Still l n) :
    Calls Tryz.prog 169 #[.slice (some ⟨g, off, none⟩) (8 * l.length - n) cc] w (Same (.bool t) w) := by
  have hlen : ((Pk.rawTo l (8 * l.length)).drop n).length = 8 * l.length - n := by rw [List.length_drop, Pk.rawTo_len]
  have hz := zero_any ((Pk.rawTo l (8 * l.length)).drop n) (some ⟨g, off, none⟩) cc w (by rw [hlen]; omega) (by
    rcases ho with rfl | ho
    · refine .inr ⟨g, off, rfl, hg, fun j hj => ?_⟩
      rw [hc (off + j) (by rw [Pk.rawTo_len]; omega)]
      simp
    · exact .inl (List.drop_eq_nil_of_le (by rw [Pk.rawTo_len]; exact ho)))
  rw [hlen] at hz
  refine hz.mono ?_
  rintro e w' ⟨t', rfl, ht', rfl⟩
  have hs : (∀ j (h : j < ((Pk.rawTo l (8 * l.length)).drop n).length), ((Pk.rawTo l (8 * l.length)).drop n)[j] = 0) ↔ Pk.Still l n := by
    constructor
    · intro h j h1 h2
      have := h (j - n) (by omega)
      rw [List.getElem_drop, Pk.rawTo_get] at this
      rwa [show n + (j - n) = j by omega] at this
    · intro h j hj
      rw [List.getElem_drop, Pk.rawTo_get]
      exact h _ (by omega) (by omega)
  have e : t' = t := by
    have : t' = true ↔ t = true := (ht'.trans hs).trans ht.symm
    exact Bool.eq_iff_iff.2 this
  rw [e]
  exact ⟨rfl, rfl⟩
/-- The text of the first n bytes. -/
theorem conv_any (l : List Int) (n m g cc : Nat) (w : World) (hn : n ≤ m)
    (hc : ∀ j (h : j < (Pk.rawTo l m).length), w.cell? ⟨g, j, none⟩ = some (.int .u8 (Pk.rawTo l m)[j])) :
    (convert 67 9 (.slice (some ⟨g, 0, none⟩) n cc)).run Tryz.prog w = .ok (.string ⟨(Pk.txt l n).toArray⟩) w := by
  have h := run_convert_bytes_back (P := Tryz.prog) w 67 9 5 ⟨g, 0, none⟩ cc (Pk.txt l n) Tryz.underlying67 Tryz.underlying5 Tryz.underlying9 (fun j hj => by
    rw [Pk.txt_len] at hj
    have b := Pk.by1_bd l j
    rw [Pk.txt_get, Pk.b8_val b.1 b.2]
    have := hc j (by rw [Pk.rawTo_len]; omega)
    rw [Pk.rawTo_get] at this
    have hadd : (⟨g, 0, none⟩ : Addr).add j = ⟨g, j, none⟩ := by unfold Addr.add; split <;> simp_all
    rw [hadd]; exact this)
  rwa [Pk.txt_len] at h
set_option maxRecDepth 100000 in
set_option maxHeartbeats 2000000 in
theorem text_like (l : List Int) (A : Option Addr) (c : Nat) (n : Nat) (w : World) (hl : l.length ≤ 1099511627776) (hm : Pk.many n = l.length) (hx : ∀ x ∈ l, 0 ≤ x ∧ x ≤ 18446744073709551615) (h : Sl .u64 w w.heap.size A l)
    (t : Bool) (ht : t = true ↔ Pk.Still l n) :
    Calls Tryz.prog 167 #[.slice A l.length c, .int .i64 n] w (Gives (if t then some2 (Pk.txt l n) else none2) w) := by
  have hbd := Pk.many_bd (n := n)
  have hn8 : n ≤ 8 * l.length := by omega
  have hn63 : (n : Int) ≤ 9223372036854775807 := by omega
  have M := fun w => many_any n w (by omega) hn63
  have R := fun w h => bytesOf_any l A c w hl hx h
  have HR := Lib.hid R; clear R
  have hne : (Pk.many n != (l.length : Int)) = false := by simpa using hm
  clear hbd hm hx
  generalize Pk.many n = m at M hne
  have HM := Lib.hid M; clear M
  have Ht := Lib.hid ht; clear ht
  obtain ⟨v, hv⟩ : ∃ v, v = (if t then some2 (Pk.txt l n) else none2) := ⟨_, rfl⟩
  rw [← hv]
  have Hv := Lib.hid hv; clear hv
  go_enter Tryz.func167, Tryz.ntmps167
  go_wp2_with fail
  with_reducible refine (HM.out _).mono ?_
  rintro e w1 ⟨rfl, rfl⟩
  go_wp2_with fail
  with_reducible refine (HR.out _ h).mono ?_
  rintro e w1 ⟨g, cap, rfl, hg, hlc, hcm, hcell, hB⟩
  rw [Pk.rawTo_len] at hlc ⊢
  have Z : ∀ off cc, (off = n ∨ 8 * l.length ≤ n) → Calls Tryz.prog 169 #[.slice (some ⟨g, off, none⟩) (8 * l.length - n) cc] w1 (Same (.bool t) w1) := fun off cc ho => tail_any l n g off cc w1 hl hn8 hg ho hcell t Ht.out
  have C := fun cc => conv_any l n (8 * l.length) g cc w1 hn8 hcell
  have HZ := Lib.hid Z; clear Z
  clear hcell
  cases t
  all_goals
    go_wp2_with fail
    all_goals
      with_reducible refine (HZ.out _ _ (by omega)).mono ?_
      rintro e w2 ⟨rfl, rfl⟩
      go_wp2
  all_goals
    go_ret2
    exact ⟨by rw [Hv.out]; rfl, hB⟩
theorem text_good (l : List Int) (A : Option Addr) (c : Nat) (n : Int) (w : World) (hl : l.length ≤ 1099511627776) (hx : ∀ x ∈ l, 0 ≤ x ∧ x ≤ 18446744073709551615) (h : Sl .u64 w w.heap.size A l) (hg : Pk.Good l n) :
    Calls Tryz.prog 167 #[.slice A l.length c, .int .i64 n] w (Gives (some2 (Pk.txt l n.toNat)) w) := by
  obtain ⟨h0, hm, hs⟩ := hg
  obtain ⟨k, rfl⟩ := Int.eq_ofNat_of_zero_le h0
  exact text_like l A c k w hl hm hx h true ⟨fun _ => hs, fun _ => rfl⟩
theorem text_bad (l : List Int) (A : Option Addr) (c : Nat) (n : Int) (w : World) (hl : l.length ≤ 1099511627776) (hx : ∀ x ∈ l, 0 ≤ x ∧ x ≤ 18446744073709551615) (h : Sl .u64 w w.heap.size A l) (hn : n ≤ 9223372036854775807) (hg : ¬ Pk.Good l n) :
    Calls Tryz.prog 167 #[.slice A l.length c, .int .i64 n] w (Gives none2 w) := by
  by_cases h0 : n < 0
  · exact text_below l A c n w h0
  · by_cases hm : Pk.many n = l.length
    · obtain ⟨k, rfl⟩ := Int.eq_ofNat_of_zero_le (a := n) (by omega)
      exact text_like l A c k w hl hm hx h false ⟨fun e => (by cases e), fun hs => absurd ⟨by omega, hm, hs⟩ hg⟩
    · exact text_unlike l A c n w (by omega) hn hm
end Go.Proofs.YtknefjigdlbacaaGreatDoor
