/-
  Several texts in one: The walks of length, Head, Lens, Size, and of the document's own; The walks of text, Read, and of the document's own Read. By an AI agent.
-/
import Derived.Test.YtknefjigdlbacaaGreatDoorSkGAN
import Derived.Test.YtknefjigdlbacaaGreatDoorSkGAC
namespace Go.Proofs.YtknefjigdlbacaaGreatDoor
open Go.RowKit
set_option maxHeartbeats 1000000 in
theorem length_any (s : ByteArray) (w : World) (hs : s.size ≤ maxLen) : Calls Tryz.prog 162 #[.string s] w (Same (.int .u64 (min (s.size : Int) 255)) w) := by
  unfold maxLen at hs
  go_enter Tryz.func162, Tryz.ntmps162
  go_wp2
  all_goals go_ret
  all_goals exact ⟨ret_int (by omega), rfl⟩
set_option maxHeartbeats 1000000 in
theorem few_any (n m : Int) (w : World) : Calls Tryz.prog 166 #[.int .i64 n, .int .i64 m] w (Same (.int .i64 (min n m)) w) := by
  by_cases h : m < n
  · go_enter Tryz.func166, Tryz.ntmps166
    go_wp2
    go_ret
    exact ⟨ret_int (by omega), rfl⟩
  · go_enter Tryz.func166, Tryz.ntmps166
    go_wp2
    go_ret
    exact ⟨ret_int (by omega), rfl⟩
set_option maxHeartbeats 1000000 in
theorem head_any (k v : ByteArray) (w : World) (hk : k.size ≤ maxLen) (hv : v.size ≤ maxLen) : Calls Tryz.prog 146 #[.string k, .string v] w (Same (.int .u64 (Bx.hd k.size v.size)) w) := by
  have K := fun w => length_any k w hk
  have V := fun w => length_any v w hv
  have hd : Bx.hd k.size v.size = min (k.size : Int) 255 + 256 * min (v.size : Int) 255 := rfl
  have b0 : 0 ≤ min (k.size : Int) 255 ∧ min (k.size : Int) 255 ≤ 255 := by omega
  have b1 : 0 ≤ min (v.size : Int) 255 ∧ min (v.size : Int) 255 ≤ 255 := by omega
  generalize min (k.size : Int) 255 = x at *
  generalize min (v.size : Int) 255 = y at *
  rw [hd]
  have HK := Lib.hid K; clear K
  have HV := Lib.hid V; clear V
  clear hd hk hv
  go_enter Tryz.func146, Tryz.ntmps146
  go_wp2_with fail
  with_reducible refine (HK.out _).mono ?_
  rintro e w1 ⟨rfl, rfl⟩
  go_wp2_with fail
  with_reducible refine (HV.out _).mono ?_
  rintro e w1 ⟨rfl, rfl⟩
  go_wp2
  go_ret
  exact ⟨ret_int (by omega), rfl⟩
/-- Two numbers. -/
abbrev two (a b : Int) : Value := .tuple #[.int .i64 a, .int .i64 b]
theorem two_of {a b c d : Int} (h : a = c) (k : b = d) : Ending.returned (two a b) = .returned (two c d) := by rw [h, k]
set_option maxHeartbeats 1000000 in
theorem lens_any (h : Int) (w : World) (h0 : 0 ≤ h) (h1 : h ≤ 18446744073709551615) : Calls Tryz.prog 155 #[.int .u64 h] w (Same (two (Bx.lk h) (Bx.lv h)) w) := by
  go_enter Tryz.func155, Tryz.ntmps155
  go_wp2
  all_goals go_ret2
  all_goals exact ⟨two_of (by unfold Bx.lk; omega) (by unfold Bx.lv; omega), rfl⟩
set_option maxHeartbeats 1000000 in
theorem rlens_any (h : Int) (w : World) (h0 : 0 ≤ h) (h1 : h ≤ 18446744073709551615) : Calls Tryz.prog 158 #[.int .u64 h] w (Same (two (Bx.lk h) (Bx.lv h)) w) := by
  have F := few_any
  have HF := Lib.hid F; clear F
  go_enter Tryz.func158, Tryz.ntmps158
  go_wp2_with fail
  with_reducible refine (HF.out _ _ _).mono ?_
  rintro e w1 ⟨rfl, rfl⟩
  go_wp2_with fail
  with_reducible refine (HF.out _ _ _).mono ?_
  rintro e w1 ⟨rfl, rfl⟩
  go_wp2
  go_ret2
  exact ⟨two_of (by unfold Bx.lk; omega) (by unfold Bx.lv; omega), rfl⟩
set_option maxHeartbeats 1000000 in
theorem bsize_any (h : Int) (w : World) (h0 : 0 ≤ h) (h1 : h ≤ 18446744073709551615) : Calls Tryz.prog 132 #[.int .u64 h] w (Same (.int .i64 (Bx.size h)) w) := by
  have L := fun w => lens_any h w h0 h1
  obtain ⟨s, hs⟩ : ∃ s, s = Bx.size h := ⟨_, rfl⟩
  have b0 := Bx.lk_bd h
  have b1 := Bx.lv_bd h
  rw [← hs]
  unfold Bx.size at hs
  generalize Bx.lk h = x at *
  generalize Bx.lv h = y at *
  have MX := fun w => many_any x w (by omega) (by omega)
  have MY := fun w => many_any y w (by omega) (by omega)
  have c0 := Pk.many_bd (n := x)
  have c1 := Pk.many_bd (n := y)
  have d0 : Pk.many x ≤ 100 := by split at c0 <;> omega
  have d1 : Pk.many y ≤ 100 := by split at c1 <;> omega
  have e0 := c0.1
  have e1 := c1.1
  clear c0 c1
  generalize Pk.many x = p at *
  generalize Pk.many y = q at *
  have HL := Lib.hid L; clear L
  have HX := Lib.hid MX; clear MX
  have HY := Lib.hid MY; clear MY
  have Hs := Lib.hid hs; clear hs
  go_enter Tryz.func132, Tryz.ntmps132
  go_wp2_with fail
  with_reducible refine (HL.out _).mono ?_
  rintro e w1 ⟨rfl, rfl⟩
  go_wp2_with fail
  with_reducible refine (HX.out _).mono ?_
  rintro e w1 ⟨rfl, rfl⟩
  go_wp2_with fail
  with_reducible refine (HY.out _).mono ?_
  rintro e w1 ⟨rfl, rfl⟩
  go_wp2
  go_ret
  exact ⟨ret_int (by rw [Hs.out]), rfl⟩
set_option maxHeartbeats 1000000 in
theorem rsize_any (h : Int) (w : World) (h0 : 0 ≤ h) (h1 : h ≤ 18446744073709551615) : Calls Tryz.prog 141 #[.int .u64 h] w (Same (.int .i64 (Bx.size h)) w) := by
  have L := fun w => rlens_any h w h0 h1
  obtain ⟨s, hs⟩ : ∃ s, s = Bx.size h := ⟨_, rfl⟩
  have b0 := Bx.lk_bd h
  have b1 := Bx.lv_bd h
  rw [← hs]
  unfold Bx.size at hs
  generalize Bx.lk h = x at *
  generalize Bx.lv h = y at *
  have MX := fun w => rmany_any x w (by omega) (by omega)
  have MY := fun w => rmany_any y w (by omega) (by omega)
  have c0 := Pk.many_bd (n := x)
  have c1 := Pk.many_bd (n := y)
  have d0 : Pk.many x ≤ 100 := by split at c0 <;> omega
  have d1 : Pk.many y ≤ 100 := by split at c1 <;> omega
  have e0 := c0.1
  have e1 := c1.1
  clear c0 c1
  generalize Pk.many x = p at *
  generalize Pk.many y = q at *
  have HL := Lib.hid L; clear L
  have HX := Lib.hid MX; clear MX
  have HY := Lib.hid MY; clear MY
  have Hs := Lib.hid hs; clear hs
  go_enter Tryz.func141, Tryz.ntmps141
  go_wp2_with fail
  with_reducible refine (HL.out _).mono ?_
  rintro e w1 ⟨rfl, rfl⟩
  go_wp2_with fail
  with_reducible refine (HX.out _).mono ?_
  rintro e w1 ⟨rfl, rfl⟩
  go_wp2_with fail
  with_reducible refine (HY.out _).mono ?_
  rintro e w1 ⟨rfl, rfl⟩
  go_wp2
  go_ret
  exact ⟨ret_int (by rw [Hs.out]), rfl⟩
end Go.Proofs.YtknefjigdlbacaaGreatDoor
namespace Go.Proofs.YtknefjigdlbacaaGreatDoor
open Go.RowKit
/-- Two texts. -/
abbrev texts (a b : List UInt8) : Value := .tuple #[.string ⟨a.toArray⟩, .string ⟨b.toArray⟩]
theorem str_of {a b : ByteArray} (h : a = b) : Ending.returned (.string a) = .returned (.string b) := by rw [h]
theorem texts_of {a b c d : List UInt8} (h : a = c) (k : b = d) : Ending.returned (texts a b) = .returned (texts c d) := by rw [h, k]
theorem cut_txt {l : List Int} {n m : Nat} (h : n ≤ m) : (⟨(Pk.txt l m).toArray⟩ : ByteArray).extract 0 n = ⟨(Pk.txt l n).toArray⟩ := by
  rw [← Bx.txt_take h]
  apply ByteArray.ext
  simp
theorem ba_sz (bs : List UInt8) : (⟨bs.toArray⟩ : ByteArray).size = bs.length := by simp [ByteArray.size]
set_option maxHeartbeats 1000000 in
theorem text_any (l : List Int) (A : Option Addr) (c n : Nat) (w : World) (hl : l.length ≤ 100) (hn : n ≤ 8 * l.length) (hx : ∀ x ∈ l, 0 ≤ x ∧ x ≤ 18446744073709551615) (h : Sl .u64 w w.heap.size A l) :
    Calls Tryz.prog 165 #[.slice A l.length c, .int .i64 n] w (Gives (.string ⟨(Pk.txt l n).toArray⟩) w) := by
  have T := text_good l A c (8 * (l.length : Int)) w (by omega) hx h Bx.good_all
  rw [show (8 * (l.length : Int)).toNat = 8 * l.length by omega] at T
  unfold some2 at T
  have C := cut_txt (l := l) hn
  have hsz : (ByteArray.mk (Pk.txt l (8 * l.length)).toArray).size = 8 * l.length := by rw [ba_sz, Pk.txt_len]
  generalize ByteArray.mk (Pk.txt l (8 * l.length)).toArray = s at *
  generalize ByteArray.mk (Pk.txt l n).toArray = t at *
  have HT := Lib.hid T; clear T
  have HC := Lib.hid C; clear C
  have hn' : n ≤ s.size := by omega
  have hs' : s.size ≤ 800 := by omega
  have Hsz := Lib.hid hsz; clear hsz
  clear hx
  go_enter Tryz.func165, Tryz.ntmps165
  go_wp2_with fail
  with_reducible refine HT.out.mono ?_
  rintro e w1 ⟨rfl, hb⟩
  go_wp2
  go_ret
  exact ⟨str_of HC.out, hb⟩
set_option maxHeartbeats 1000000 in
theorem rword_at (l : List Int) (A : Option Addr) (c i : Nat) (w : World) (hl : l.length ≤ 1099511627776) (h : Sl .u64 w w.heap.size A l) :
    Calls Tryz.prog 160 #[.slice A l.length c, .int .i64 i] w (Same (.int .u64 (l.getD i 0)) w) := by
  by_cases hlt : i < l.length
  · rcases h with rfl | ⟨b, off, rfl, hb, hc⟩
    · simp at hlt
    have g1 := hc i hlt
    have e1 : l.getD i 0 = l[i] := by rw [List.getD_eq_getElem?_getD, List.getElem?_eq_getElem hlt]; rfl
    clear hc
    rw [e1]
    clear e1
    have hn : ¬ (l.length : Int) ≤ (i : Int) := by omega
    go_enter Tryz.func160, Tryz.ntmps160
    go_wp2
    go_ret
    exact ⟨rfl, rfl⟩
  · have e1 : l.getD i 0 = 0 := by rw [List.getD_eq_getElem?_getD, List.getElem?_eq_none (by omega)]; rfl
    have E1 := Lib.hid e1; clear e1
    go_enter Tryz.func160, Tryz.ntmps160
    go_wp2
    go_ret
    exact ⟨ret_int E1.out.symm, rfl⟩
theorem own_conv {l : List Int} {n m : Nat} {w wr : World} {v : Value} (hm : m = n) (hnn : v ≠ .slice none 0 0) (hown : wr.ownsRow w.heap.size 5 1 v m ((Pk.rawTo l m).map (Value.int .u8))) :
    (convert 67 9 v).run Tryz.prog wr = .ok (.string ⟨(Pk.txt l n).toArray⟩) wr := by
  subst hm
  rcases hown.2 with ⟨rfl, h0⟩ | ⟨g, cap, cur, rfl, _, hg, h1, h2, _⟩
  · exact absurd rfl hnn
  · refine conv_any l m m g cap wr (Nat.le_refl _) fun j hj => ?_
    rw [Pk.rawTo_len] at hj
    rw [hown.cellAt j (by omega)]
    simp [Pk.rawTo_len, hj]
theorem div8 {i k j : Nat} (h : i = 8 * k + j) (hj : j < 8) : ((i : Int) / 8 = k) ∧ ((i : Int) % 8 = j) ∧ (i : Int).tdiv 8 = k ∧ (i : Int).tmod 8 = j := by
  have h1 : (i : Int) / 8 = k := by omega
  have h2 : (i : Int) % 8 = j := by omega
  exact ⟨h1, h2, by rw [Int.tdiv_eq_ediv_of_nonneg (by omega)]; exact h1, by rw [Int.tmod_eq_emod_of_nonneg (by omega)]; exact h2⟩
set_option maxRecDepth 100000 in
set_option maxHeartbeats 2000000 in
theorem rbytes_at (l : List Int) (A : Option Addr) (c f n : Nat) (w : World) (hl : l.length ≤ 1000000) (hf : f ≤ 100) (hn : n ≤ 100) (hx : ∀ x ∈ l, 0 ≤ x ∧ x ≤ 18446744073709551615) (h : Sl .u64 w w.heap.size A l) :
    Calls Tryz.prog 161 #[.slice A l.length c, .int .i64 f, .int .i64 n] w (Gives (.string ⟨(Pk.txt (l.drop f) n).toArray⟩) w) := by
  obtain ⟨i0, hi, hz0, hz1, hz2⟩ := info_parts info_u8
  have Hz0 := Lib.hid hz0; clear hz0
  have Hz1 := Lib.hid hz1; clear hz1
  have Hz2 := Lib.hid hz2; clear hz2
  have Hi := Lib.hid hi; clear hi
  have W := fun (w : World) i h => rword_at l A c i w (by omega) h
  have HW := Lib.hid W; clear W
  have hy : ∀ i, 0 ≤ l.getD i 0 ∧ l.getD i 0 ≤ 18446744073709551615 := fun i => by
    rw [List.getD_eq_getElem?_getD]
    by_cases hi : i < l.length
    · rw [List.getElem?_eq_getElem hi]; exact hx _ (List.getElem_mem hi)
    · rw [List.getElem?_eq_none (by omega)]; exact ⟨by decide, by decide⟩
  have HY := Lib.hid hy; clear hy
  clear hx
  go_enter Tryz.func161, Tryz.ntmps161
  go_wp2
  go_loopw [7, 8] (fun v i wr => ∃ k : Nat, k ≤ n ∧ i = .int .i64 k ∧ v ≠ .slice none 0 0 ∧ wr.ownsRow w.heap.size 5 1 v k ((Pk.rawTo (l.drop f) k).map (Value.int .u8)) ∧ Below w.heap.size w wr)
    (fun _ i _ => n - (intOf i).toNat)
  case atStart => exact ⟨0, by omega, rfl, by simp, World.ownsRow_lit (size := 1) w #[] 0 (Nat.le_refl _) (by decide) (by decide), (Below.refl _ _).alloc (Nat.le_refl _) _⟩
  case round =>
    obtain ⟨i, hi, rfl, hnn, hown, hB⟩ := hrel
    by_cases hlt : i < n
    · obtain ⟨k, j, hj, hij⟩ : ∃ k j, j < 8 ∧ i = 8 * k + j := ⟨i / 8, i % 8, by omega, by omega⟩
      obtain ⟨d1, d2, d3, d4⟩ := div8 hij hj
      obtain ⟨fk, hfk, hfb⟩ : ∃ fk : Nat, (f : Int) + (k : Int) = (fk : Int) ∧ fk ≤ 1099511627776 := ⟨f + k, by omega, by omega⟩
      have e1 : Pk.by1 (l.drop f) i = Ln.byt (l.getD fk 0) j := by
        unfold Pk.by1
        rw [Bx.getD_drop, show f + i / 8 = fk by omega, show ((i % 8 : Nat) : Int) = (j : Int) by omega]
      have E1 := Lib.hid e1; clear e1
      have WK := HW.out wr fk ((h.below hB).mono hB.size)
      obtain ⟨hx0, hx1⟩ := HY.out fk
      have hbd := Ln.byt_bd' (x := l.getD fk 0) (i := (j : Int)) (by omega) (by omega)
      generalize l.getD fk 0 = z at *
      have B1 := fun w => rbyte_any z (j : Int) w hx0 hx1
      generalize Ln.byt z (j : Int) = y at B1 E1 hbd
      have HWK := Lib.hid WK; clear WK
      have HB1 := Lib.hid B1; clear B1
      have Hij := Lib.hid hij; clear hij
      have hwr : IntKind.u8.wrap y = y := by simp [IntKind.wrap, IntKind.bits, IntKind.signed]; omega
      have Hfk := Lib.hid hfk; clear hfk
      go_wp2_with fail
      rw [Hfk.out]
      with_reducible refine HWK.out.mono ?_
      rintro e w2 ⟨rfl, rfl⟩
      go_wp2_with fail
      with_reducible refine (HB1.out _).mono ?_
      rintro e w2 ⟨rfl, rfl⟩
      go_wp2_with (at_builtin; refine wpList_append_own _ rfl _ _ 67 rfl w.heap.size 5 i0 (.int .u8 0) 1 1 Tryz.underlying67 Hi.out Hz0.out Hz1.out Hz2.out rfl (by decide) _ _ _ rfl (hown.alloc _) ⟨_, 0, none⟩ 1 1 [.int .u8 y] rfl rfl ?c1 ?c2 ?c3 ?c4 ?c5 ?_)
      case c1 => exact cell_one_new _ _ _
      case c2 => simp [Value.oneCell']
      case c3 => unfold maxLen; omega
      case c4 => omega
      case c5 => have := hB.size; simp; omega
      intro v' w2 hown' hgrow hnil
      have hnn2 : v' ≠ .slice none 0 0 := hnil
      have hB3 : Below w.heap.size w w2 := (hB.alloc hB.size _).grown hgrow (by have := hB.size; simp; omega) (fun j e => (hown.lt j e).1)
      have hown2 : w2.ownsRow w.heap.size 5 1 v' (i + 1) ((Pk.rawTo (l.drop f) (i + 1)).map (Value.int .u8)) := by
        rw [Pk.rawTo_succ, E1.out]; simpa using hown'
      clear hown' hgrow hown hnil hnn
      go_wp2
      go_roundw
      case rel => exact ⟨i + 1, by omega, by go_num, hnn2, hown2, hB3⟩
      case measure => simp [intOf]; omega
    · obtain rfl : i = n := by omega
      have C := own_conv (l := l.drop f) (n := i) (w := w) rfl hnn hown
      go_wp2
      go_ret
      exact ⟨rfl, hB⟩
/-- A list's word at a place, or 0, is a word. -/
theorem getD_wf {l : List Int} (hx : ∀ x ∈ l, 0 ≤ x ∧ x ≤ 18446744073709551615) (i : Nat) : 0 ≤ l.getD i 0 ∧ l.getD i 0 ≤ 18446744073709551615 := by
  rw [List.getD_eq_getElem?_getD]
  by_cases hi : i < l.length
  · rw [List.getElem?_eq_getElem hi]; exact hx _ (List.getElem_mem hi)
  · rw [List.getElem?_eq_none (by omega)]; exact ⟨by decide, by decide⟩
set_option maxRecDepth 100000 in
set_option maxHeartbeats 2000000 in
theorem rread_any (l : List Int) (A : Option Addr) (c : Nat) (w : World) (hl : l.length ≤ 1000000) (hx : ∀ x ∈ l, 0 ≤ x ∧ x ≤ 18446744073709551615) (h : Sl .u64 w w.heap.size A l) :
    Calls Tryz.prog 142 #[.slice A l.length c] w (Gives (texts (Bx.key l) (Bx.val l)) w) := by
  have W := rword_at l A c 0 w (by omega) h
  rw [show ((0 : Nat) : Int) = 0 from rfl] at W
  have hy := getD_wf hx 0
  have L := fun w => rlens_any (l.getD 0 0) w hy.1 hy.2
  obtain ⟨k, hk, hk16⟩ := Bx.lk_nat (l.getD 0 0)
  obtain ⟨v, hv, hv24⟩ := Bx.lv_nat (l.getD 0 0)
  have ek : Bx.key l = Pk.txt (l.drop 1) k := by unfold Bx.key; rw [hk, Int.toNat_natCast]
  have ev : Bx.val l = Pk.txt (l.drop (1 + Pk.cnt k)) v := by unfold Bx.val; rw [hk, hv, Int.toNat_natCast, Int.toNat_natCast]
  rw [hk, hv] at L
  have M := fun w => rmany_any (k : Int) w (by omega) (by omega)
  have hm2 : Pk.cnt k ≤ 2 := Bx.cnt_le (by omega)
  rw [← Pk.cnt_many] at M
  rw [ek, ev]
  clear ek ev
  generalize l.getD 0 0 = y at *
  obtain ⟨m, hm⟩ : ∃ m, m = Pk.cnt k := ⟨_, rfl⟩
  rw [← hm] at M hm2 ⊢
  clear hm hk hv hy
  have R1 : ∀ w, Sl .u64 w w.heap.size A l → Calls Tryz.prog 161 #[.slice A l.length c, .int .i64 1, .int .i64 k] w (Gives (.string ⟨(Pk.txt (l.drop 1) k).toArray⟩) w) := fun w h => rbytes_at l A c 1 k w hl (by omega) (by omega) hx h
  have R2 := fun (w : World) h => rbytes_at l A c (1 + m) v w hl (by omega) (by omega) hx h
  have eq1 : ((1 + m : Nat) : Int) = 1 + (m : Int) := by omega
  rw [eq1] at R2
  clear eq1
  generalize Pk.txt (l.drop 1) k = a at *
  generalize Pk.txt (l.drop (1 + m)) v = b at *
  have HW := Lib.hid W; clear W
  have HL := Lib.hid L; clear L
  have HM := Lib.hid M; clear M
  have HR1 := Lib.hid R1; clear R1
  have HR2 := Lib.hid R2; clear R2
  clear hx
  go_enter Tryz.func142, Tryz.ntmps142
  go_wp2_with fail
  with_reducible refine HW.out.mono ?_
  rintro e w1 ⟨rfl, rfl⟩
  go_wp2_with fail
  with_reducible refine (HL.out _).mono ?_
  rintro e w1 ⟨rfl, rfl⟩
  go_wp2_with fail
  with_reducible refine (HR1.out _ h).mono ?_
  rintro e w1 ⟨rfl, hb1⟩
  go_wp2_with fail
  with_reducible refine (HM.out _).mono ?_
  rintro e w2 ⟨rfl, rfl⟩
  go_wp2_with fail
  with_reducible refine (HR2.out _ ((h.below hb1).mono hb1.size)).mono ?_
  rintro e w2 ⟨rfl, hb2⟩
  go_wp2
  go_ret2
  exact ⟨rfl, below_then hb1 hb2⟩
end Go.Proofs.YtknefjigdlbacaaGreatDoor
