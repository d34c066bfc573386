/-
  The walks of Print, and of the document's own Print. By an AI agent.
-/
import Derived.Test.YtombholjbcnncaaDoorHexaParts
import Derived.Maps.AppendAt
import Derived.Laws.OwnMore
import Derived.Laws.IdiomStrings
import Derived.Laws.BytesArg
import Derived.Deep.RegionHeld3
import Derived.Deep.AppendLies
import Derived.Deep.DrawnRows
namespace Go.Proofs.YtombholjbcnncaaDoor
open Go.RowKit
attribute [local go_sem ↓] Go.wp_at_zero Go.wp_at_succ
def vals (bs : List UInt8) : List Value := bs.map fun b => .int .u8 (b.toNat : Int)
theorem vals_len (bs : List UInt8) : (vals bs).length = bs.length := by simp [vals]
theorem vals_app (a b : List UInt8) : vals (a ++ b) = vals a ++ vals b := by simp [vals]
theorem info_u8 : (Tryd.prog.info? 5).map (fun i => (i.zero, i.size, i.bytes)) = some (some (.int .u8 0), 1, 1) := by kernel_rfl
theorem ba_len (s : ByteArray) : s.data.toList.length = s.size := Array.length_toList
theorem ba_getElem (s : ByteArray) (k : Nat) (h : k < s.size) : s[k] = s.data.toList[k]'(by simpa using h) := by
  simp [ByteArray.getElem_eq_getElem_data]
theorem ba_sg {s : ByteArray} {k : Nat} (h : k < s.size) : s[k].toNat = Hx.sg s.data.toList k := by
  rw [Hx.sg_in (by rw [ba_len]; exact h), ba_getElem s k h]
/-- The bytes of a text in memory of their own. -/
theorem bytes_any (s : ByteArray) (w : World) : ∃ C W, (convert 9 30 (.string s)).run Tryd.prog w = .ok (.slice (some ⟨w.heap.size, 0, none⟩) s.size C) W ∧ s.size ≤ C ∧ Below w.heap.size w W ∧ w.heap.size < W.heap.size ∧
    ∀ j, j < s.size → W.cell? ⟨w.heap.size, j, none⟩ = some (.int .u8 (Hx.sg s.data.toList j : Int)) := by
  refine ⟨_, _, run_bytes_of_string (P := Tryd.prog) w 9 30 5 s Tryd.underlying9 Tryd.underlying30 Tryd.underlying5, grownCap_ge _ _ _ _, ((Below.refl _ _).drew).alloc (Nat.le_refl _) _, ?_, fun j hj' => ?_⟩
  · show w.heap.size < (w.heap.push _).size
    simp
  · have := World.cell?_alloc_mark w.drew (bytesRow s (grownCap w s.size 0 5)) 5 ((bytesRow s (grownCap w s.size 0 5)).size, (bytesRow s (grownCap w s.size 0 5)).size + 1) j
    rw [← ba_sg hj']
    refine Eq.trans this ?_
    have hjd : j < s.data.size := hj'
    simp [bytesRow, Array.getElem?_append]
    rw [if_pos hj', Array.getElem?_eq_getElem hjd]
    rfl
/-- The text of a row of bytes. -/
theorem own_conv {bs : List UInt8} {n B : Nat} {wr : World} {v : Value} (hn : bs.length = n) (hnn : v ≠ .slice none 0 0) (hown : wr.ownsRow B 5 1 v n (vals bs)) :
    (convert 30 9 v).run Tryd.prog wr = .ok (.string ⟨bs.toArray⟩) wr := by
  subst hn
  rcases hown.2 with ⟨rfl, h0⟩ | ⟨g, cap, cur, rfl, _, hg, h1, h2, _⟩
  · exact absurd rfl hnn
  · refine run_convert_bytes_back (P := Tryd.prog) wr 30 9 5 ⟨g, 0, none⟩ cap bs Tryd.underlying30 Tryd.underlying5 Tryd.underlying9 (fun j hj => ?_)
    have hadd : (⟨g, 0, none⟩ : Addr).add j = ⟨g, j, none⟩ := by unfold Addr.add; split <;> simp_all
    rw [hadd, hown.cellAt j (by omega)]
    simp [vals, hj]
theorem and_all : ∀ n : Fin 256, bits .and .u8 ((n.1 : Nat) : Int) 15 = ((n.1 % 16 : Nat) : Int) := by decide +kernel
theorem u8_and15 {x : Nat} (h : x < 256) : bits .and .u8 (x : Int) 15 = ((x % 16 : Nat) : Int) := and_all ⟨x, h⟩
set_option maxHeartbeats 1000000 in
theorem print_none (w : World) : Calls Tryd.prog 8 #[.string ⟨#[]⟩] w (Gives (.string ⟨#[45]⟩) w) := by
  go_enter Tryd.func8, Tryd.ntmps8
  go_wp2
  go_ret
  exact ⟨rfl, Below.refl _ _⟩
set_option maxRecDepth 100000 in
set_option maxHeartbeats 2000000 in
theorem print_some (s : ByteArray) (w : World) (ht : Tab w) (hs : s.size ≤ 1099511627776) (hne : s.toList.isEmpty = false) : Calls Tryd.prog 8 #[.string s] w (Gives (.string ⟨(Hx.textTo s.data.toList s.size).toArray⟩) w) := by
  obtain ⟨i0, hi, hz0, hz1, hz2⟩ := info_parts info_u8
  have Hz0 := Lib.hid hz0; clear hz0
  have Hz1 := Lib.hid hz1; clear hz1
  have Hz2 := Lib.hid hz2; clear hz2
  have Hi := Lib.hid hi; clear hi
  obtain ⟨C, W, hconv, hC, hBW, hW, hcell⟩ := bytes_any s w
  have Hcell := Lib.hid hcell; clear hcell
  have HT := Lib.hid (ht.below hBW ht.lt)
  have hw0 := ht.lt
  clear ht
  go_enter Tryd.func8, Tryd.ntmps8
  go_wp2
  go_loopw [3, 5, 11] (fun v _ i wr => ∃ k : Nat, k ≤ s.size ∧ i = .int .i64 k ∧ (k = 0 ∨ v ≠ .slice none 0 0) ∧ wr.ownsRow W.heap.size 5 1 v (2 * k) (vals (Hx.textTo s.data.toList k)) ∧ Below W.heap.size W wr)
    (fun _ _ i _ => s.size - (intOf i).toNat)
  case atStart => exact ⟨0, by omega, rfl, .inl rfl, World.ownsRow_nil _ _ _ _, Below.refl _ _⟩
  case round =>
    obtain ⟨k, hk, rfl, hnn, hown, hB⟩ := hrel
    by_cases hlt : k < s.size
    · have g1 : wr.cell? ⟨w.heap.size, k, none⟩ = some (.int .u8 (Hx.sg s.data.toList k : Int)) := (hB.cell (p := ⟨w.heap.size, k, none⟩) hW).trans (Hcell.out k hlt)
      have T1 := HT.out.below hB (by omega)
      have hx : Hx.sg s.data.toList k < 256 := by unfold Hx.sg; exact UInt8.toNat_lt _
      have hnx : vals (Hx.textTo s.data.toList (k + 1)) = vals (Hx.textTo s.data.toList k) ++ [.int .u8 (Hx.dg (Hx.sg s.data.toList k / 16) : Int), .int .u8 (Hx.dg (Hx.sg s.data.toList k % 16) : Int)] := by
        rw [Hx.textTo_succ, vals_app]
        simp [vals, Hx.up_val, Hx.lo_val, Hx.sg]
      have Hnx := Lib.hid hnx; clear hnx
      generalize Hx.sg s.data.toList k = x at hx g1 Hnx
      have e2 := u8_and15 hx
      have e1 : (x : Int) / 16 = ((x / 16 : Nat) : Int) := by omega
      have hq : x / 16 < 16 := by omega
      have hr : x % 16 < 16 := by omega
      have c1 := T1.cell hq
      have c2 := T1.cell hr
      generalize Hx.dg (x / 16) = d1 at c1 Hnx
      generalize Hx.dg (x % 16) = d2 at c2 Hnx
      generalize x / 16 = q at e1 c1 hq
      generalize x % 16 = r at e2 c2 hr
      have q0 : (0 : Int) ≤ (q : Int) := by omega
      have q1 : (q : Int) < 16 := by omega
      have r0 : (0 : Int) ≤ (r : Int) := by omega
      have r1 : (r : Int) < 16 := by omega
      have ag : ∀ v, wr.ownsRow W.heap.size 5 1 v (2 * k) (vals (Hx.textTo s.data.toList k)) → v.ownBlock ≠ some 0 := fun v h e => by have := (h.lt 0 e).1; omega
      have Hag := Lib.hid (ag _ hown); clear ag T1
      have Hown := Lib.hid hown; clear hown
      have hBs := hB.size
      go_wp2
      go_region_held3 (fun w' => w'.cell? ⟨0, q, none⟩ = some (.int .u8 (d1 : Int)) ∧ w'.cell? ⟨0, r, none⟩ = some (.int .u8 (d2 : Int)))
        (first
          | go_keep
          | (go_split_ands
             refine ⟨?_, ?_⟩
             · (rw [hgrow.cell_far _ (by simp) (Ne.symm Hag.out)]; assumption)
             · (rw [hgrow.cell_far _ (by simp) (Ne.symm Hag.out)]; assumption)))
        ((refine step_append_lies _ (by rfl) _ _ _ (by rfl) W.heap.size 5 i0 _ 1 1 Tryd.underlying30 Hi.out Hz0.out Hz1.out Hz2.out rfl (by omega) _ (2 * k) _ (by rfl) ((Hown.out.alloc _).drew)
              ⟨wr.heap.size, 0, none⟩ 2 2 [.int .u8 (d1 : Int), .int .u8 (d2 : Int)] (by rfl) (by rfl) (World.news_of_block (cs := #[.int .u8 (d1 : Int), .int .u8 (d2 : Int)]) (t := 5) (fr := (0, 0)) (heap_alloc_new wr _)) (by simp [Value.oneCell'])
              (by omega) (by unfold maxLen; omega) (by omega) (by simp; omega) (wr.heap.size + 1) (by simp) ?_; intro gg cap w1 hown1 hgrow hat hlt1))
      have hB1 : Below W.heap.size W w1 := (hB.drew.alloc hBs _).grown hgrow (by simp; omega) (fun j e => (Hown.out.lt j e).1)
      have hown2 : w1.ownsRow W.heap.size 5 1 (.slice (some ⟨gg, 0, none⟩) (2 * k + 2) cap) (2 * (k + 1)) (vals (Hx.textTo s.data.toList (k + 1))) := by
        rw [Hnx.out, show 2 * (k + 1) = 2 * k + 2 by omega]; exact hown1
      clear hown1 hgrow hat
      go_wp2
      go_roundw
      case rel => exact ⟨k + 1, by omega, by go_num, .inr (by simp), hown2, hB1⟩
      case measure => simp [intOf]; omega
    · obtain rfl : k = s.size := by omega
      have hk0 : s.size ≠ 0 := by
        intro e
        have hl : s.toList.length = 0 := by rw [ByteArray.toList_eq s, ba_len, e]
        rw [List.length_eq_zero_iff.1 hl] at hne
        cases hne
      rcases hnn with h0 | hnn
      · exact absurd h0 hk0
      have C1 := own_conv (n := 2 * s.size) (Hx.textTo_len _ _) hnn hown
      go_wp2
      go_ret
      exact ⟨rfl, hBW.trans (hB.mono hBW.size)⟩
/-- ████ Print. ████ -/
theorem print_any (s : ByteArray) (w : World) (ht : Tab w) (hs : s.size ≤ 1099511627776) : Calls Tryd.prog 8 #[.string s] w (Gives (.string ⟨(Hx.print s.data.toList).toArray⟩) w) := by
  by_cases h : s.data.toList = []
  · rw [h]
    obtain rfl : s = ⟨#[]⟩ := by
      cases s with | mk d => simpa using h
    exact print_none w
  · rw [Hx.print_cons h, ba_len]
    refine print_some s w ht hs ?_
    rw [ByteArray.toList_eq s]
    cases h' : s.data.toList with
    | nil => exact absurd h' h
    | cons a l => rfl
set_option maxHeartbeats 1000000 in
theorem rprint_none (w : World) : Calls Tryd.prog 9 #[.string ⟨#[]⟩] w (Gives (.string ⟨#[45]⟩) w) := by
  go_enter Tryd.func9, Tryd.ntmps9
  go_wp2
  go_ret
  exact ⟨rfl, Below.refl _ _⟩
theorem div16 (x : Nat) (h : x < 256) : IntKind.i64.wrap ((x : Int).tdiv 16) = ((x / 16 : Nat) : Int) ∧ (x : Int).tdiv 16 = ((x / 16 : Nat) : Int) ∧ (x : Int).tmod 16 = ((x % 16 : Nat) : Int) ∧ IntKind.i64.wrap ((x : Int).tmod 16) = ((x % 16 : Nat) : Int) := by
  have e1 : (x : Int).tdiv 16 = ((x / 16 : Nat) : Int) := by rw [Int.tdiv_eq_ediv_of_nonneg (by omega)]; omega
  have e2 : (x : Int).tmod 16 = ((x % 16 : Nat) : Int) := by rw [Int.tmod_eq_emod_of_nonneg (by omega)]; omega
  refine ⟨?_, e1, e2, ?_⟩
  · rw [e1]; exact IntWalk.i64_in _ (by constructor <;> omega)
  · rw [e2]; exact IntWalk.i64_in _ (by constructor <;> omega)
set_option maxRecDepth 100000 in
set_option maxHeartbeats 2000000 in
theorem rprint_some (s : ByteArray) (w : World) (hs : s.size ≤ 1099511627776) (hne : ((s.size : Int) == 0) = false) : Calls Tryd.prog 9 #[.string s] w (Gives (.string ⟨(Hx.textTo s.data.toList s.size).toArray⟩) w) := by
  obtain ⟨i0, hi, hz0, hz1, hz2⟩ := info_parts info_u8
  have Hz0 := Lib.hid hz0; clear hz0
  have Hz1 := Lib.hid hz1; clear hz1
  have Hz2 := Lib.hid hz2; clear hz2
  have Hi := Lib.hid hi; clear hi
  go_enter Tryd.func9, Tryd.ntmps9
  go_wp2
  go_loopw [3, 4] (fun v i wr => ∃ k : Nat, k ≤ s.size ∧ i = .int .i64 k ∧ v ≠ .slice none 0 0 ∧ wr.ownsRow w.heap.size 5 1 v (2 * k) (vals (Hx.textTo s.data.toList k)) ∧ Below w.heap.size w wr)
    (fun _ i _ => s.size - (intOf i).toNat)
  case atStart => exact ⟨0, by omega, rfl, by simp, World.ownsRow_lit (size := 1) w #[] 0 (Nat.le_refl _) (by decide) (by decide), (Below.refl _ _).alloc (Nat.le_refl _) _⟩
  case round =>
    obtain ⟨k, hk, rfl, hnn, hown, hB⟩ := hrel
    by_cases hlt : k < s.size
    · have hnx : vals (Hx.textTo s.data.toList (k + 1)) = vals (Hx.textTo s.data.toList k) ++ [.int .u8 (Hx.dg (s[k].toNat / 16) : Int), .int .u8 (Hx.dg (s[k].toNat % 16) : Int)] := by
        rw [Hx.textTo_succ, vals_app, ba_sg hlt]
        simp [vals, Hx.up_val, Hx.lo_val, Hx.sg]
      have Hnx := Lib.hid hnx; clear hnx
      have hx := s[k].toNat_lt
      obtain ⟨e1, e2, e3, e4⟩ := div16 _ hx
      have e5 : IntKind.i64.wrap ((s[k].toNat / 16 : Nat) : Int) = ((s[k].toNat / 16 : Nat) : Int) := IntWalk.i64_in _ (by constructor <;> omega)
      have e6 : IntKind.i64.wrap ((s[k].toNat % 16 : Nat) : Int) = ((s[k].toNat % 16 : Nat) : Int) := IntWalk.i64_in _ (by constructor <;> omega)
      have e0 : IntKind.i64.wrap (s[k].toNat : Int) = (s[k].toNat : Int) := IntWalk.i64_in _ (by constructor <;> omega)
      have hq : s[k].toNat / 16 < 16 := by omega
      have hr : s[k].toNat % 16 < 16 := by omega
      generalize s[k].toNat / 16 = q at e1 e2 e5 hq Hnx
      generalize s[k].toNat % 16 = r at e3 e4 e6 hr Hnx
      have HD := Lib.hid digit_any
      have Hown := Lib.hid hown; clear hown
      have hBs := hB.size
      have k0 : (0 : Int) ≤ (k : Int) := by omega
      have k1 : (k : Int) < (s.size : Int) := by omega
      go_wp2
      go_region_held3 (fun _ => True) (trivial)
        (first
          | (go_at_call 11; refine (HD.out _ _ (by assumption)).mono ?_; rintro e w' ⟨rfl, rfl⟩)
          | (refine step_append_lies _ (by rfl) _ _ _ (by rfl) w.heap.size 5 i0 _ 1 1 Tryd.underlying30 Hi.out Hz0.out Hz1.out Hz2.out rfl (by omega) _ (2 * k) _ (by rfl) ((Hown.out.alloc _).drew)
              ⟨wr.heap.size, 0, none⟩ 2 2 [.int .u8 (Hx.dg q : Int), .int .u8 (Hx.dg r : Int)] (by rfl) (by rfl) (World.news_of_block (cs := #[.int .u8 (Hx.dg q : Int), .int .u8 (Hx.dg r : Int)]) (t := 5) (fr := (0, 0)) (heap_alloc_new wr _)) (by simp [Value.oneCell'])
              (by omega) (by unfold maxLen; omega) (by omega) (by simp; omega) (wr.heap.size + 1) (by simp) ?_; intro gg cap w1 hown1 hgrow hat hlt1)
          | fail)
      all_goals
        have hB1 : Below w.heap.size w w1 := (hB.drew.alloc hBs _).grown hgrow (by simp; omega) (fun j e => (Hown.out.lt j e).1)
        have hown2 : w1.ownsRow w.heap.size 5 1 (.slice (some ⟨gg, 0, none⟩) (2 * k + 2) cap) (2 * (k + 1)) (vals (Hx.textTo s.data.toList (k + 1))) := by
          rw [Hnx.out, show 2 * (k + 1) = 2 * k + 2 by omega]; exact hown1
        clear hown1 hgrow hat
        go_wp2
        go_roundw
        case rel => exact ⟨k + 1, by omega, by go_num, by simp, hown2, hB1⟩
        case measure => simp [intOf]; omega
    · obtain rfl : k = s.size := by omega
      have C1 := own_conv (n := 2 * s.size) (Hx.textTo_len _ _) hnn hown
      go_wp2
      go_ret
      exact ⟨rfl, hB⟩
theorem rprint_any (s : ByteArray) (w : World) (hs : s.size ≤ 1099511627776) : Calls Tryd.prog 9 #[.string s] w (Gives (.string ⟨(Hx.print s.data.toList).toArray⟩) w) := by
  by_cases h : s.data.toList = []
  · rw [h]
    obtain rfl : s = ⟨#[]⟩ := by
      cases s with | mk d => simpa using h
    exact rprint_none w
  · rw [Hx.print_cons h, ba_len]
    refine rprint_some s w hs ?_
    have : s.size ≠ 0 := by
      intro e
      rw [← ba_len] at e
      exact h (List.length_eq_zero_iff.1 e)
    simpa using this
end Go.Proofs.YtombholjbcnncaaDoor
