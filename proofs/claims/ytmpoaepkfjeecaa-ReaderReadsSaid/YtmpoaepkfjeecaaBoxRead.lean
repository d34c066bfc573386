/-
  The walks of text, Read, and of the document's own Read. By an AI agent.
-/
import Derived.Test.YtmpoaepkfjeecaaPackText
import Derived.Test.YtmpoaepkfjeecaaBoxParts
namespace Go.Proofs.Ytmpoaepkfjeecaa
open Go.RowKit
/-- Two texts. -/
abbrev texts (a b : List UInt8) : Value := .tuple #[.string ⟨a.toArray⟩, .string ⟨b.toArray⟩]
theorem str_of {a b : ByteArray} (h : a = b) : Ending.returned (.string a) = .returned (.string b) := by rw [h]
theorem texts_of {a b c d : List UInt8} (h : a = c) (k : b = d) : Ending.returned (texts a b) = .returned (texts c d) := by rw [h, k]
theorem cut_txt {l : List Int} {n m : Nat} (h : n ≤ m) : (⟨(Pk.txt l m).toArray⟩ : ByteArray).extract 0 n = ⟨(Pk.txt l n).toArray⟩ := by
  rw [← Bx.txt_take h]
  apply ByteArray.ext
  simp
theorem ba_sz (bs : List UInt8) : (⟨bs.toArray⟩ : ByteArray).size = bs.length := by simp [ByteArray.size]
set_option maxHeartbeats 1000000 in
theorem text_any (l : List Int) (A : Option Addr) (c n : Nat) (w : World) (hl : l.length ≤ 100) (hn : n ≤ 8 * l.length) (hx : ∀ x ∈ l, 0 ≤ x ∧ x ≤ 18446744073709551615) (h : Sl .u64 w w.heap.size A l) :
    Calls Try.prog 43 #[.slice A l.length c, .int .i64 n] w (Gives (.string ⟨(Pk.txt l n).toArray⟩) w) := by
  have T := text_good l A c (8 * (l.length : Int)) w (by omega) hx h Bx.good_all
  rw [show (8 * (l.length : Int)).toNat = 8 * l.length by omega] at T
  unfold some2 at T
  have C := cut_txt (l := l) hn
  have hsz : (ByteArray.mk (Pk.txt l (8 * l.length)).toArray).size = 8 * l.length := by rw [ba_sz, Pk.txt_len]
  generalize ByteArray.mk (Pk.txt l (8 * l.length)).toArray = s at *
  generalize ByteArray.mk (Pk.txt l n).toArray = t at *
  have HT := Lib.hid T; clear T
  have HC := Lib.hid C; clear C
  have hn' : n ≤ s.size := by omega
  have hs' : s.size ≤ 800 := by omega
  have Hsz := Lib.hid hsz; clear hsz
  clear hx
  go_enter Try.func43, Try.ntmps43
  go_wp2_with fail
  with_reducible refine HT.out.mono ?_
  rintro e w1 ⟨rfl, hb⟩
  go_wp2
  go_ret
  exact ⟨str_of HC.out, hb⟩
set_option maxHeartbeats 1000000 in
theorem rword_at (l : List Int) (A : Option Addr) (c i : Nat) (w : World) (hl : l.length ≤ 1099511627776) (h : Sl .u64 w w.heap.size A l) :
    Calls Try.prog 30 #[.slice A l.length c, .int .i64 i] w (Same (.int .u64 (l.getD i 0)) w) := by
  by_cases hlt : i < l.length
  · rcases h with rfl | ⟨b, off, rfl, hb, hc⟩
    · simp at hlt
    have g1 := hc i hlt
    have e1 : l.getD i 0 = l[i] := by rw [List.getD_eq_getElem?_getD, List.getElem?_eq_getElem hlt]; rfl
    clear hc
    rw [e1]
    clear e1
    have hn : ¬ (l.length : Int) ≤ (i : Int) := by omega
    go_enter Try.func30, Try.ntmps30
    go_wp2
    go_ret
    exact ⟨rfl, rfl⟩
  · have e1 : l.getD i 0 = 0 := by rw [List.getD_eq_getElem?_getD, List.getElem?_eq_none (by omega)]; rfl
    have E1 := Lib.hid e1; clear e1
    go_enter Try.func30, Try.ntmps30
    go_wp2
    go_ret
    exact ⟨ret_int E1.out.symm, rfl⟩
theorem own_conv {l : List Int} {n m : Nat} {w wr : World} {v : Value} (hm : m = n) (hnn : v ≠ .slice none 0 0) (hown : wr.ownsRow w.heap.size 5 1 v m ((Pk.rawTo l m).map (Value.int .u8))) :
    (convert 88 9 v).run Try.prog wr = .ok (.string ⟨(Pk.txt l n).toArray⟩) wr := by
  subst hm
  rcases hown.2 with ⟨rfl, h0⟩ | ⟨g, cap, cur, rfl, _, hg, h1, h2, _⟩
  · exact absurd rfl hnn
  · refine conv_any l m m g cap wr (Nat.le_refl _) fun j hj => ?_
    rw [Pk.rawTo_len] at hj
    rw [hown.cellAt j (by omega)]
    simp [Pk.rawTo_len, hj]
theorem div8 {i k j : Nat} (h : i = 8 * k + j) (hj : j < 8) : ((i : Int) / 8 = k) ∧ ((i : Int) % 8 = j) ∧ (i : Int).tdiv 8 = k ∧ (i : Int).tmod 8 = j := by
  have h1 : (i : Int) / 8 = k := by omega
  have h2 : (i : Int) % 8 = j := by omega
  exact ⟨h1, h2, by rw [Int.tdiv_eq_ediv_of_nonneg (by omega)]; exact h1, by rw [Int.tmod_eq_emod_of_nonneg (by omega)]; exact h2⟩
set_option maxRecDepth 100000 in
set_option maxHeartbeats 2000000 in
theorem rbytes_at (l : List Int) (A : Option Addr) (c f n : Nat) (w : World) (hl : l.length ≤ 1000000) (hf : f ≤ 100) (hn : n ≤ 100) (hx : ∀ x ∈ l, 0 ≤ x ∧ x ≤ 18446744073709551615) (h : Sl .u64 w w.heap.size A l) :
    Calls Try.prog 31 #[.slice A l.length c, .int .i64 f, .int .i64 n] w (Gives (.string ⟨(Pk.txt (l.drop f) n).toArray⟩) w) := by
  obtain ⟨i0, hi, hz0, hz1, hz2⟩ := info_parts info_u8
  have Hz0 := Lib.hid hz0; clear hz0
  have Hz1 := Lib.hid hz1; clear hz1
  have Hz2 := Lib.hid hz2; clear hz2
  have Hi := Lib.hid hi; clear hi
  have W := fun (w : World) i h => rword_at l A c i w (by omega) h
  have HW := Lib.hid W; clear W
  have hy : ∀ i, 0 ≤ l.getD i 0 ∧ l.getD i 0 ≤ 18446744073709551615 := fun i => by
    rw [List.getD_eq_getElem?_getD]
    by_cases hi : i < l.length
    · rw [List.getElem?_eq_getElem hi]; exact hx _ (List.getElem_mem hi)
    · rw [List.getElem?_eq_none (by omega)]; exact ⟨by decide, by decide⟩
  have HY := Lib.hid hy; clear hy
  clear hx
  go_enter Try.func31, Try.ntmps31
  go_wp2
  go_loopw [7, 8] (fun v i wr => ∃ k : Nat, k ≤ n ∧ i = .int .i64 k ∧ v ≠ .slice none 0 0 ∧ wr.ownsRow w.heap.size 5 1 v k ((Pk.rawTo (l.drop f) k).map (Value.int .u8)) ∧ Below w.heap.size w wr)
    (fun _ i _ => n - (intOf i).toNat)
  case atStart => exact ⟨0, by omega, rfl, by simp, World.ownsRow_lit (size := 1) w #[] 0 (Nat.le_refl _) (by decide) (by decide), (Below.refl _ _).alloc (Nat.le_refl _) _⟩
  case round =>
    obtain ⟨i, hi, rfl, hnn, hown, hB⟩ := hrel
    by_cases hlt : i < n
    · obtain ⟨k, j, hj, hij⟩ : ∃ k j, j < 8 ∧ i = 8 * k + j := ⟨i / 8, i % 8, by omega, by omega⟩
      obtain ⟨d1, d2, d3, d4⟩ := div8 hij hj
      obtain ⟨fk, hfk, hfb⟩ : ∃ fk : Nat, (f : Int) + (k : Int) = (fk : Int) ∧ fk ≤ 1099511627776 := ⟨f + k, by omega, by omega⟩
      have e1 : Pk.by1 (l.drop f) i = Ln.byt (l.getD fk 0) j := by
        unfold Pk.by1
        rw [Bx.getD_drop, show f + i / 8 = fk by omega, show ((i % 8 : Nat) : Int) = (j : Int) by omega]
      have E1 := Lib.hid e1; clear e1
      have WK := HW.out wr fk ((h.below hB).mono hB.size)
      obtain ⟨hx0, hx1⟩ := HY.out fk
      have hbd := Ln.byt_bd' (x := l.getD fk 0) (i := (j : Int)) (by omega) (by omega)
      generalize l.getD fk 0 = z at *
      have B1 := fun w => rbyte_any z (j : Int) w hx0 hx1
      generalize Ln.byt z (j : Int) = y at B1 E1 hbd
      have HWK := Lib.hid WK; clear WK
      have HB1 := Lib.hid B1; clear B1
      have Hij := Lib.hid hij; clear hij
      have hwr : IntKind.u8.wrap y = y := by simp [IntKind.wrap, IntKind.bits, IntKind.signed]; omega
      have Hfk := Lib.hid hfk; clear hfk
      go_wp2_with fail
      rw [Hfk.out]
      with_reducible refine HWK.out.mono ?_
      rintro e w2 ⟨rfl, rfl⟩
      go_wp2_with fail
      with_reducible refine (HB1.out _).mono ?_
      rintro e w2 ⟨rfl, rfl⟩
      go_wp2_with (at_builtin; refine wpList_append_own _ rfl _ _ 88 rfl w.heap.size 5 i0 (.int .u8 0) 1 1 Try.underlying88 Hi.out Hz0.out Hz1.out Hz2.out rfl (by decide) _ _ _ rfl (hown.alloc _) ⟨_, 0, none⟩ 1 1 [.int .u8 y] rfl rfl ?c1 ?c2 ?c3 ?c4 ?c5 ?_)
      case c1 => exact cell_one_new _ _ _
      case c2 => simp [Value.oneCell']
      case c3 => unfold maxLen; omega
      case c4 => omega
      case c5 => have := hB.size; simp; omega
      intro v' w2 hown' hgrow hnil
      have hnn2 : v' ≠ .slice none 0 0 := hnil
      have hB3 : Below w.heap.size w w2 := (hB.alloc hB.size _).grown hgrow (by have := hB.size; simp; omega) (fun j e => (hown.lt j e).1)
      have hown2 : w2.ownsRow w.heap.size 5 1 v' (i + 1) ((Pk.rawTo (l.drop f) (i + 1)).map (Value.int .u8)) := by
        rw [Pk.rawTo_succ, E1.out]; simpa using hown'
      clear hown' hgrow hown hnil hnn
      go_wp2
      go_roundw
      case rel => exact ⟨i + 1, by omega, by go_num, hnn2, hown2, hB3⟩
      case measure => simp [intOf]; omega
    · obtain rfl : i = n := by omega
      have C := own_conv (l := l.drop f) (n := i) (w := w) rfl hnn hown
      go_wp2
      go_ret
      exact ⟨rfl, hB⟩
/-- A list's word at a place, or 0, is a word. -/
theorem getD_wf {l : List Int} (hx : ∀ x ∈ l, 0 ≤ x ∧ x ≤ 18446744073709551615) (i : Nat) : 0 ≤ l.getD i 0 ∧ l.getD i 0 ≤ 18446744073709551615 := by
  rw [List.getD_eq_getElem?_getD]
  by_cases hi : i < l.length
  · rw [List.getElem?_eq_getElem hi]; exact hx _ (List.getElem_mem hi)
  · rw [List.getElem?_eq_none (by omega)]; exact ⟨by decide, by decide⟩
set_option maxRecDepth 100000 in
set_option maxHeartbeats 2000000 in
theorem rread_any (l : List Int) (A : Option Addr) (c : Nat) (w : World) (hl : l.length ≤ 1000000) (hx : ∀ x ∈ l, 0 ≤ x ∧ x ≤ 18446744073709551615) (h : Sl .u64 w w.heap.size A l) :
    Calls Try.prog 19 #[.slice A l.length c] w (Gives (texts (Bx.key l) (Bx.val l)) w) := by
  have W := rword_at l A c 0 w (by omega) h
  rw [show ((0 : Nat) : Int) = 0 from rfl] at W
  have hy := getD_wf hx 0
  have L := fun w => rlens_any (l.getD 0 0) w hy.1 hy.2
  obtain ⟨k, hk, hk16⟩ := Bx.lk_nat (l.getD 0 0)
  obtain ⟨v, hv, hv24⟩ := Bx.lv_nat (l.getD 0 0)
  have ek : Bx.key l = Pk.txt (l.drop 1) k := by unfold Bx.key; rw [hk, Int.toNat_natCast]
  have ev : Bx.val l = Pk.txt (l.drop (1 + Pk.cnt k)) v := by unfold Bx.val; rw [hk, hv, Int.toNat_natCast, Int.toNat_natCast]
  rw [hk, hv] at L
  have M := fun w => rmany_any (k : Int) w (by omega) (by omega)
  have hm2 : Pk.cnt k ≤ 2 := Bx.cnt_le (by omega)
  rw [← Pk.cnt_many] at M
  rw [ek, ev]
  clear ek ev
  generalize l.getD 0 0 = y at *
  obtain ⟨m, hm⟩ : ∃ m, m = Pk.cnt k := ⟨_, rfl⟩
  rw [← hm] at M hm2 ⊢
  clear hm hk hv hy
  have R1 : ∀ w, Sl .u64 w w.heap.size A l → Calls Try.prog 31 #[.slice A l.length c, .int .i64 1, .int .i64 k] w (Gives (.string ⟨(Pk.txt (l.drop 1) k).toArray⟩) w) := fun w h => rbytes_at l A c 1 k w hl (by omega) (by omega) hx h
  have R2 := fun (w : World) h => rbytes_at l A c (1 + m) v w hl (by omega) (by omega) hx h
  have eq1 : ((1 + m : Nat) : Int) = 1 + (m : Int) := by omega
  rw [eq1] at R2
  clear eq1
  generalize Pk.txt (l.drop 1) k = a at *
  generalize Pk.txt (l.drop (1 + m)) v = b at *
  have HW := Lib.hid W; clear W
  have HL := Lib.hid L; clear L
  have HM := Lib.hid M; clear M
  have HR1 := Lib.hid R1; clear R1
  have HR2 := Lib.hid R2; clear R2
  clear hx
  go_enter Try.func19, Try.ntmps19
  go_wp2_with fail
  with_reducible refine HW.out.mono ?_
  rintro e w1 ⟨rfl, rfl⟩
  go_wp2_with fail
  with_reducible refine (HL.out _).mono ?_
  rintro e w1 ⟨rfl, rfl⟩
  go_wp2_with fail
  with_reducible refine (HR1.out _ h).mono ?_
  rintro e w1 ⟨rfl, hb1⟩
  go_wp2_with fail
  with_reducible refine (HM.out _).mono ?_
  rintro e w2 ⟨rfl, rfl⟩
  go_wp2_with fail
  with_reducible refine (HR2.out _ ((h.below hb1).mono hb1.size)).mono ?_
  rintro e w2 ⟨rfl, hb2⟩
  go_wp2
  go_ret2
  exact ⟨rfl, below_then hb1 hb2⟩
end Go.Proofs.Ytmpoaepkfjeecaa
