/-
  Several texts in one: The walks of text, Read, and of the document's own Read; The walk of wordOf. By an AI agent.
-/
import Derived.Test.YtknefjigdlbacaaGreatDoorSkFAP
import Derived.Laws.CopyOwn
import Derived.Deep.RegionLaw
namespace Go.Proofs.YtknefjigdlbacaaGreatDoor
open Go.RowKit
/-- Two texts. -/
abbrev texts (a b : List UInt8) : Value := .tuple #[.string ⟨a.toArray⟩, .string ⟨b.toArray⟩]
theorem str_of {a b : ByteArray} (h : a = b) : Ending.returned (.string a) = .returned (.string b) := by rw [h]
theorem texts_of {a b c d : List UInt8} (h : a = c) (k : b = d) : Ending.returned (texts a b) = .returned (texts c d) := by rw [h, k]
theorem cut_txt {l : List Int} {n m : Nat} (h : n ≤ m) : (⟨(Pk.txt l m).toArray⟩ : ByteArray).extract 0 n = ⟨(Pk.txt l n).toArray⟩ := by
  rw [← Bx.txt_take h]
  apply ByteArray.ext
  simp
theorem ba_sz (bs : List UInt8) : (⟨bs.toArray⟩ : ByteArray).size = bs.length := by simp [ByteArray.size]
set_option maxHeartbeats 1000000 in
theorem text_any (l : List Int) (A : Option Addr) (c n : Nat) (w : World) (hl : l.length ≤ 100) (hn : n ≤ 8 * l.length) (hx : ∀ x ∈ l, 0 ≤ x ∧ x ≤ 18446744073709551615) (h : Sl .u64 w w.heap.size A l) :
    Calls Tryz.prog 165 #[.slice A l.length c, .int .i64 n] w (Gives (.string ⟨(Pk.txt l n).toArray⟩) w) := by
  have T := text_good l A c (8 * (l.length : Int)) w (by omega) hx h Bx.good_all
  rw [show (8 * (l.length : Int)).toNat = 8 * l.length by omega] at T
  unfold some2 at T
  have C := cut_txt (l := l) hn
  have hsz : (ByteArray.mk (Pk.txt l (8 * l.length)).toArray).size = 8 * l.length := by rw [ba_sz, Pk.txt_len]
  generalize ByteArray.mk (Pk.txt l (8 * l.length)).toArray = s at *
  generalize ByteArray.mk (Pk.txt l n).toArray = t at *
  have HT := Lib.hid T; clear T
  have HC := Lib.hid C; clear C
  have hn' : n ≤ s.size := by omega
  have hs' : s.size ≤ 800 := by omega
  have Hsz := Lib.hid hsz; clear hsz
  clear hx
  go_enter Tryz.func165, Tryz.ntmps165
  go_wp2_with fail
  with_reducible refine HT.out.mono ?_
  rintro e w1 ⟨rfl, hb⟩
  go_wp2
  go_ret
  exact ⟨str_of HC.out, hb⟩
set_option maxHeartbeats 1000000 in
theorem rword_at (l : List Int) (A : Option Addr) (c i : Nat) (w : World) (hl : l.length ≤ 1099511627776) (h : Sl .u64 w w.heap.size A l) :
    Calls Tryz.prog 160 #[.slice A l.length c, .int .i64 i] w (Same (.int .u64 (l.getD i 0)) w) := by
  by_cases hlt : i < l.length
  · rcases h with rfl | ⟨b, off, rfl, hb, hc⟩
    · simp at hlt
    have g1 := hc i hlt
    have e1 : l.getD i 0 = l[i] := by rw [List.getD_eq_getElem?_getD, List.getElem?_eq_getElem hlt]; rfl
    clear hc
    rw [e1]
    clear e1
    have hn : ¬ (l.length : Int) ≤ (i : Int) := by omega
    go_enter Tryz.func160, Tryz.ntmps160
    go_wp2
    go_ret
    exact ⟨rfl, rfl⟩
  · have e1 : l.getD i 0 = 0 := by rw [List.getD_eq_getElem?_getD, List.getElem?_eq_none (by omega)]; rfl
    have E1 := Lib.hid e1; clear e1
    go_enter Tryz.func160, Tryz.ntmps160
    go_wp2
    go_ret
    exact ⟨ret_int E1.out.symm, rfl⟩
theorem own_conv {l : List Int} {n m : Nat} {w wr : World} {v : Value} (hm : m = n) (hnn : v ≠ .slice none 0 0) (hown : wr.ownsRow w.heap.size 5 1 v m ((Pk.rawTo l m).map (Value.int .u8))) :
    (convert 67 9 v).run Tryz.prog wr = .ok (.string ⟨(Pk.txt l n).toArray⟩) wr := by
  subst hm
  rcases hown.2 with ⟨rfl, h0⟩ | ⟨g, cap, cur, rfl, _, hg, h1, h2, _⟩
  · exact absurd rfl hnn
  · refine conv_any l m m g cap wr (Nat.le_refl _) fun j hj => ?_
    rw [Pk.rawTo_len] at hj
    rw [hown.cellAt j (by omega)]
    simp [Pk.rawTo_len, hj]
theorem div8 {i k j : Nat} (h : i = 8 * k + j) (hj : j < 8) : ((i : Int) / 8 = k) ∧ ((i : Int) % 8 = j) ∧ (i : Int).tdiv 8 = k ∧ (i : Int).tmod 8 = j := by
  have h1 : (i : Int) / 8 = k := by omega
  have h2 : (i : Int) % 8 = j := by omega
  exact ⟨h1, h2, by rw [Int.tdiv_eq_ediv_of_nonneg (by omega)]; exact h1, by rw [Int.tmod_eq_emod_of_nonneg (by omega)]; exact h2⟩
set_option maxRecDepth 100000 in
set_option maxHeartbeats 2000000 in
theorem rbytes_at (l : List Int) (A : Option Addr) (c f n : Nat) (w : World) (hl : l.length ≤ 1000000) (hf : f ≤ 100) (hn : n ≤ 100) (hx : ∀ x ∈ l, 0 ≤ x ∧ x ≤ 18446744073709551615) (h : Sl .u64 w w.heap.size A l) :
    Calls Tryz.prog 161 #[.slice A l.length c, .int .i64 f, .int .i64 n] w (Gives (.string ⟨(Pk.txt (l.drop f) n).toArray⟩) w) := by
  obtain ⟨i0, hi, hz0, hz1, hz2⟩ := info_parts info_u8
  have Hz0 := Lib.hid hz0; clear hz0
  have Hz1 := Lib.hid hz1; clear hz1
  have Hz2 := Lib.hid hz2; clear hz2
  have Hi := Lib.hid hi; clear hi
  have W := fun (w : World) i h => rword_at l A c i w (by omega) h
  have HW := Lib.hid W; clear W
  have hy : ∀ i, 0 ≤ l.getD i 0 ∧ l.getD i 0 ≤ 18446744073709551615 := fun i => by
    rw [List.getD_eq_getElem?_getD]
    by_cases hi : i < l.length
    · rw [List.getElem?_eq_getElem hi]; exact hx _ (List.getElem_mem hi)
    · rw [List.getElem?_eq_none (by omega)]; exact ⟨by decide, by decide⟩
  have HY := Lib.hid hy; clear hy
  clear hx
  go_enter Tryz.func161, Tryz.ntmps161
  go_wp2
  go_loopw [7, 8] (fun v i wr => ∃ k : Nat, k ≤ n ∧ i = .int .i64 k ∧ v ≠ .slice none 0 0 ∧ wr.ownsRow w.heap.size 5 1 v k ((Pk.rawTo (l.drop f) k).map (Value.int .u8)) ∧ Below w.heap.size w wr)
    (fun _ i _ => n - (intOf i).toNat)
  case atStart => exact ⟨0, by omega, rfl, by simp, World.ownsRow_lit (size := 1) w #[] 0 (Nat.le_refl _) (by decide) (by decide), (Below.refl _ _).alloc (Nat.le_refl _) _⟩
  case round =>
    obtain ⟨i, hi, rfl, hnn, hown, hB⟩ := hrel
    by_cases hlt : i < n
    · obtain ⟨k, j, hj, hij⟩ : ∃ k j, j < 8 ∧ i = 8 * k + j := ⟨i / 8, i % 8, by omega, by omega⟩
      obtain ⟨d1, d2, d3, d4⟩ := div8 hij hj
      obtain ⟨fk, hfk, hfb⟩ : ∃ fk : Nat, (f : Int) + (k : Int) = (fk : Int) ∧ fk ≤ 1099511627776 := ⟨f + k, by omega, by omega⟩
      have e1 : Pk.by1 (l.drop f) i = Ln.byt (l.getD fk 0) j := by
        unfold Pk.by1
        rw [Bx.getD_drop, show f + i / 8 = fk by omega, show ((i % 8 : Nat) : Int) = (j : Int) by omega]
      have E1 := Lib.hid e1; clear e1
      have WK := HW.out wr fk ((h.below hB).mono hB.size)
      obtain ⟨hx0, hx1⟩ := HY.out fk
      have hbd := Ln.byt_bd' (x := l.getD fk 0) (i := (j : Int)) (by omega) (by omega)
      generalize l.getD fk 0 = z at *
      have B1 := fun w => rbyte_any z (j : Int) w hx0 hx1
      generalize Ln.byt z (j : Int) = y at B1 E1 hbd
      have HWK := Lib.hid WK; clear WK
      have HB1 := Lib.hid B1; clear B1
      have Hij := Lib.hid hij; clear hij
      have hwr : IntKind.u8.wrap y = y := by simp [IntKind.wrap, IntKind.bits, IntKind.signed]; omega
      have Hfk := Lib.hid hfk; clear hfk
      go_wp2_with fail
      rw [Hfk.out]
      with_reducible refine HWK.out.mono ?_
      rintro e w2 ⟨rfl, rfl⟩
      go_wp2_with fail
      with_reducible refine (HB1.out _).mono ?_
      rintro e w2 ⟨rfl, rfl⟩
      go_wp2_with (at_builtin; refine wpList_append_own _ rfl _ _ 67 rfl w.heap.size 5 i0 (.int .u8 0) 1 1 Tryz.underlying67 Hi.out Hz0.out Hz1.out Hz2.out rfl (by decide) _ _ _ rfl (hown.alloc _) ⟨_, 0, none⟩ 1 1 [.int .u8 y] rfl rfl ?c1 ?c2 ?c3 ?c4 ?c5 ?_)
      case c1 => exact cell_one_new _ _ _
      case c2 => simp [Value.oneCell']
      case c3 => unfold maxLen; omega
      case c4 => omega
      case c5 => have := hB.size; simp; omega
      intro v' w2 hown' hgrow hnil
      have hnn2 : v' ≠ .slice none 0 0 := hnil
      have hB3 : Below w.heap.size w w2 := (hB.alloc hB.size _).grown hgrow (by have := hB.size; simp; omega) (fun j e => (hown.lt j e).1)
      have hown2 : w2.ownsRow w.heap.size 5 1 v' (i + 1) ((Pk.rawTo (l.drop f) (i + 1)).map (Value.int .u8)) := by
        rw [Pk.rawTo_succ, E1.out]; simpa using hown'
      clear hown' hgrow hown hnil hnn
      go_wp2
      go_roundw
      case rel => exact ⟨i + 1, by omega, by go_num, hnn2, hown2, hB3⟩
      case measure => simp [intOf]; omega
    · obtain rfl : i = n := by omega
      have C := own_conv (l := l.drop f) (n := i) (w := w) rfl hnn hown
      go_wp2
      go_ret
      exact ⟨rfl, hB⟩
/-- A list's word at a place, or 0, is a word. -/
theorem getD_wf {l : List Int} (hx : ∀ x ∈ l, 0 ≤ x ∧ x ≤ 18446744073709551615) (i : Nat) : 0 ≤ l.getD i 0 ∧ l.getD i 0 ≤ 18446744073709551615 := by
  rw [List.getD_eq_getElem?_getD]
  by_cases hi : i < l.length
  · rw [List.getElem?_eq_getElem hi]; exact hx _ (List.getElem_mem hi)
  · rw [List.getElem?_eq_none (by omega)]; exact ⟨by decide, by decide⟩
set_option maxRecDepth 100000 in
set_option maxHeartbeats 2000000 in
theorem rread_any (l : List Int) (A : Option Addr) (c : Nat) (w : World) (hl : l.length ≤ 1000000) (hx : ∀ x ∈ l, 0 ≤ x ∧ x ≤ 18446744073709551615) (h : Sl .u64 w w.heap.size A l) :
    Calls Tryz.prog 142 #[.slice A l.length c] w (Gives (texts (Bx.key l) (Bx.val l)) w) := by
  have W := rword_at l A c 0 w (by omega) h
  rw [show ((0 : Nat) : Int) = 0 from rfl] at W
  have hy := getD_wf hx 0
  have L := fun w => rlens_any (l.getD 0 0) w hy.1 hy.2
  obtain ⟨k, hk, hk16⟩ := Bx.lk_nat (l.getD 0 0)
  obtain ⟨v, hv, hv24⟩ := Bx.lv_nat (l.getD 0 0)
  have ek : Bx.key l = Pk.txt (l.drop 1) k := by unfold Bx.key; rw [hk, Int.toNat_natCast]
  have ev : Bx.val l = Pk.txt (l.drop (1 + Pk.cnt k)) v := by unfold Bx.val; rw [hk, hv, Int.toNat_natCast, Int.toNat_natCast]
  rw [hk, hv] at L
  have M := fun w => rmany_any (k : Int) w (by omega) (by omega)
  have hm2 : Pk.cnt k ≤ 2 := Bx.cnt_le (by omega)
  rw [← Pk.cnt_many] at M
  rw [ek, ev]
  clear ek ev
  generalize l.getD 0 0 = y at *
  obtain ⟨m, hm⟩ : ∃ m, m = Pk.cnt k := ⟨_, rfl⟩
  rw [← hm] at M hm2 ⊢
  clear hm hk hv hy
  have R1 : ∀ w, Sl .u64 w w.heap.size A l → Calls Tryz.prog 161 #[.slice A l.length c, .int .i64 1, .int .i64 k] w (Gives (.string ⟨(Pk.txt (l.drop 1) k).toArray⟩) w) := fun w h => rbytes_at l A c 1 k w hl (by omega) (by omega) hx h
  have R2 := fun (w : World) h => rbytes_at l A c (1 + m) v w hl (by omega) (by omega) hx h
  have eq1 : ((1 + m : Nat) : Int) = 1 + (m : Int) := by omega
  rw [eq1] at R2
  clear eq1
  generalize Pk.txt (l.drop 1) k = a at *
  generalize Pk.txt (l.drop (1 + m)) v = b at *
  have HW := Lib.hid W; clear W
  have HL := Lib.hid L; clear L
  have HM := Lib.hid M; clear M
  have HR1 := Lib.hid R1; clear R1
  have HR2 := Lib.hid R2; clear R2
  clear hx
  go_enter Tryz.func142, Tryz.ntmps142
  go_wp2_with fail
  with_reducible refine HW.out.mono ?_
  rintro e w1 ⟨rfl, rfl⟩
  go_wp2_with fail
  with_reducible refine (HL.out _).mono ?_
  rintro e w1 ⟨rfl, rfl⟩
  go_wp2_with fail
  with_reducible refine (HR1.out _ h).mono ?_
  rintro e w1 ⟨rfl, hb1⟩
  go_wp2_with fail
  with_reducible refine (HM.out _).mono ?_
  rintro e w2 ⟨rfl, rfl⟩
  go_wp2_with fail
  with_reducible refine (HR2.out _ ((h.below hb1).mono hb1.size)).mono ?_
  rintro e w2 ⟨rfl, hb2⟩
  go_wp2
  go_ret2
  exact ⟨rfl, below_then hb1 hb2⟩
end Go.Proofs.YtknefjigdlbacaaGreatDoor
namespace Go.Proofs.YtknefjigdlbacaaGreatDoor
open Go.RowKit
/-- The bytes that are copied. -/
def part (bs : List UInt8) (i : Nat) : List Value := (List.range (min 8 (bs.length - i))).map fun j => Value.int .u8 (Pk.bv bs (i + j))
theorem part_len (bs : List UInt8) (i : Nat) : (part bs i).length = min 8 (bs.length - i) := by simp [part]
/-- The eight bytes from i on. -/
def oct (bs : List UInt8) (i : Nat) : List Value := [.int .u8 (Pk.bv bs i), .int .u8 (Pk.bv bs (i + 1)), .int .u8 (Pk.bv bs (i + 2)), .int .u8 (Pk.bv bs (i + 3)), .int .u8 (Pk.bv bs (i + 4)), .int .u8 (Pk.bv bs (i + 5)), .int .u8 (Pk.bv bs (i + 6)), .int .u8 (Pk.bv bs (i + 7))]
theorem splice_oct (bs : List UInt8) (i : Nat) : splice [.int .u8 0, .int .u8 0, .int .u8 0, .int .u8 0, .int .u8 0, .int .u8 0, .int .u8 0, .int .u8 0] 0 (part bs i) = oct bs i := by
  have key : ∀ m, m = min 8 (bs.length - i) → m ≤ 8 := by intro m h; omega
  have hz : ∀ j, min 8 (bs.length - i) ≤ j → j < 8 → Pk.bv bs (i + j) = 0 := fun j h1 h2 => Pk.bv_out (by omega)
  unfold part splice oct
  generalize hm : min 8 (bs.length - i) = m at hz
  have h8 : m = 8 ∨ m < 8 := by have := key m hm.symm; omega
  rcases h8 with rfl | h8
  · simp [List.range, List.range.loop]
  · have hz0 : m = 0 → Pk.bv bs i = 0 := fun e => by have := hz 0 (by omega) (by omega); simpa using this
    rcases Ln.eightN h8 with rfl | rfl | rfl | rfl | rfl | rfl | rfl | rfl <;> simp [List.range, List.range.loop, hz, hz0]
abbrev zero8 : List Value := [.int .u8 0, .int .u8 0, .int .u8 0, .int .u8 0, .int .u8 0, .int .u8 0, .int .u8 0, .int .u8 0]
theorem size_u8 : (Tryz.prog.info? 5).map (·.size) = some 1 := by kernel_rfl
theorem part_one (bs : List UInt8) (i : Nat) : ∀ v ∈ part bs i, v.oneCell' = true := by
  intro v hv
  simp only [part, List.mem_map] at hv
  obtain ⟨j, -, rfl⟩ := hv
  simp [Value.oneCell']
theorem part_cells {bs : List UInt8} {i b : Nat} {w : World} (hc : ∀ j, j < bs.length → w.cell? ⟨b, j, none⟩ = some (.int .u8 (Pk.bv bs j))) :
    ∀ j v, (part bs i)[j]? = some v → w.cell? ((⟨b, i, none⟩ : Addr).add j) = some v := by
  intro j v hj
  have hadd : (⟨b, i, none⟩ : Addr).add j = ⟨b, i + j, none⟩ := by unfold Addr.add; split <;> simp_all
  have hjl : j < (part bs i).length := (List.getElem?_eq_some_iff.1 hj).1
  have hjl' := hjl
  rw [part_len] at hjl'
  rw [List.getElem?_eq_getElem hjl] at hj
  simp [part] at hj
  rw [hadd, hc _ (by omega), ← hj]
theorem oct_cell {bs : List UInt8} {i g : Nat} {t : TypeId} {w : World} (h : w.heap[g]? = some (.cells (oct bs i).toArray t (0, 0))) (k : Nat) (hk : k < 8) : w.cell? ⟨g, k, none⟩ = some (.int .u8 (Pk.bv bs (i + k))) := by
  have : (oct bs i)[k]? = some (.int .u8 (Pk.bv bs (i + k))) := by
    rcases Ln.eightN hk with rfl | rfl | rfl | rfl | rfl | rfl | rfl | rfl <;> rfl
  simp [World.cell?, h, this]
theorem copied {bs : List UInt8} {i b e g : Nat} {w w1 : World} {ops : Array Oper} {o : Oper} {a : Act} {K : Act → World → Prop} {Q : Exit → Act → World → Prop} {E : Prop} (hgd : o.guard = none) (d s : Operand)
    (ho : o.op = .call { callee := .builtin .copy, args := #[d, s], argTypes := #[67, 67] })
    (hd : a.eval d = .slice (some ⟨g, 0, none⟩) 8 8) (hs : a.eval s = .slice (some ⟨b, i, none⟩) (e - i) (e - i))
    (hg : w1.heap[g]? = some (.cells zero8.toArray 197 (0, 0))) (hp : Nat.min (e - i) 8 = (part bs i).length)
    (hc : ∀ j, j < bs.length → w1.cell? ⟨b, j, none⟩ = some (.int .u8 (Pk.bv bs j))) (hB : Below w.heap.size w w1) (hBg : w.heap.size ≤ g)
    (h : ∀ w', Hid (w'.heap[g]? = some (.cells (oct bs i).toArray 197 (0, 0))) → Below w.heap.size w w' → K (a.put o.dst (goInt (part bs i).length)) w') :
    if Region.wanted o (yielded ops a.tmps) = true then Oper.wp Tryz.prog o a w1 K Q else E := by
  refine step_copy_splice hgd d s 67 67 ho 5 Tryz.underlying67 size_u8 _ _ _ _ _ _ hd hs g 0 zero8 197 hg (part bs i) hp.symm (fun _ => ⟨rfl, ⟨b, i, none⟩, rfl, part_cells hc⟩) (by rw [part_len]; show 0 + min 8 _ ≤ 8; omega) (part_one bs i) w.heap.size w hB hBg ?_
  intro w' h1 h2
  rw [splice_oct] at h1
  exact h w' h1 h2
theorem idx0 (y0 y1 y2 y3 y4 y5 y6 y7 : Int) : ∀ w : World, (Instr.index 197 (.agg #[.int .u8 y0, .int .u8 y1, .int .u8 y2, .int .u8 y3, .int .u8 y4, .int .u8 y5, .int .u8 y6, .int .u8 y7]) (.int .i64 0)).run Tryz.prog w = .ok (.int .u8 y0) w := fun _ => by kernel_rfl
theorem idx1 (y0 y1 y2 y3 y4 y5 y6 y7 : Int) : ∀ w : World, (Instr.index 197 (.agg #[.int .u8 y0, .int .u8 y1, .int .u8 y2, .int .u8 y3, .int .u8 y4, .int .u8 y5, .int .u8 y6, .int .u8 y7]) (.int .i64 1)).run Tryz.prog w = .ok (.int .u8 y1) w := fun _ => by kernel_rfl
theorem idx2 (y0 y1 y2 y3 y4 y5 y6 y7 : Int) : ∀ w : World, (Instr.index 197 (.agg #[.int .u8 y0, .int .u8 y1, .int .u8 y2, .int .u8 y3, .int .u8 y4, .int .u8 y5, .int .u8 y6, .int .u8 y7]) (.int .i64 2)).run Tryz.prog w = .ok (.int .u8 y2) w := fun _ => by kernel_rfl
theorem idx3 (y0 y1 y2 y3 y4 y5 y6 y7 : Int) : ∀ w : World, (Instr.index 197 (.agg #[.int .u8 y0, .int .u8 y1, .int .u8 y2, .int .u8 y3, .int .u8 y4, .int .u8 y5, .int .u8 y6, .int .u8 y7]) (.int .i64 3)).run Tryz.prog w = .ok (.int .u8 y3) w := fun _ => by kernel_rfl
theorem idx4 (y0 y1 y2 y3 y4 y5 y6 y7 : Int) : ∀ w : World, (Instr.index 197 (.agg #[.int .u8 y0, .int .u8 y1, .int .u8 y2, .int .u8 y3, .int .u8 y4, .int .u8 y5, .int .u8 y6, .int .u8 y7]) (.int .i64 4)).run Tryz.prog w = .ok (.int .u8 y4) w := fun _ => by kernel_rfl
theorem idx5 (y0 y1 y2 y3 y4 y5 y6 y7 : Int) : ∀ w : World, (Instr.index 197 (.agg #[.int .u8 y0, .int .u8 y1, .int .u8 y2, .int .u8 y3, .int .u8 y4, .int .u8 y5, .int .u8 y6, .int .u8 y7]) (.int .i64 5)).run Tryz.prog w = .ok (.int .u8 y5) w := fun _ => by kernel_rfl
theorem idx6 (y0 y1 y2 y3 y4 y5 y6 y7 : Int) : ∀ w : World, (Instr.index 197 (.agg #[.int .u8 y0, .int .u8 y1, .int .u8 y2, .int .u8 y3, .int .u8 y4, .int .u8 y5, .int .u8 y6, .int .u8 y7]) (.int .i64 6)).run Tryz.prog w = .ok (.int .u8 y6) w := fun _ => by kernel_rfl
theorem idx7 (y0 y1 y2 y3 y4 y5 y6 y7 : Int) : ∀ w : World, (Instr.index 197 (.agg #[.int .u8 y0, .int .u8 y1, .int .u8 y2, .int .u8 y3, .int .u8 y4, .int .u8 y5, .int .u8 y6, .int .u8 y7]) (.int .i64 7)).run Tryz.prog w = .ok (.int .u8 y7) w := fun _ => by kernel_rfl
set_option maxRecDepth 100000 in
set_option maxHeartbeats 4000000 in
theorem wordOf_any (bs : List UInt8) (i b c : Nat) (w : World) (hlen : bs.length ≤ 1099511627776) (hlc : bs.length ≤ c) (hi : i < bs.length) (hb : b < w.heap.size)
    (hc : ∀ j, j < bs.length → w.cell? ⟨b, j, none⟩ = some (.int .u8 (Pk.bv bs j))) :
    Calls Tryz.prog 163 #[.slice (some ⟨b, 0, none⟩) bs.length c, .int .i64 i] w (Gives (.int .u64 (Pk.wto bs i 8)) w) := by
  have Hc := Lib.hid hc; clear hc
  have W0 : ∀ w, Calls Tryz.prog 126 #[.int .u64 0, .int .i64 0, .int .i64 (Pk.bv bs i)] w (Same (.int .u64 (Pk.wto bs i 1)) w) := fun w => with_any (Pk.wto bs i 0) 0 (Pk.bv bs (i + 0)) w (Pk.wto_bd bs i 0).1 (Pk.wto_bd bs i 0).2
  have W1 : ∀ w, Calls Tryz.prog 126 #[.int .u64 (Pk.wto bs i 1), .int .i64 1, .int .i64 (Pk.bv bs (i + 1))] w (Same (.int .u64 (Pk.wto bs i 2)) w) := fun w => with_any (Pk.wto bs i 1) 1 (Pk.bv bs (i + 1)) w (Pk.wto_bd bs i 1).1 (Pk.wto_bd bs i 1).2
  have W2 : ∀ w, Calls Tryz.prog 126 #[.int .u64 (Pk.wto bs i 2), .int .i64 2, .int .i64 (Pk.bv bs (i + 2))] w (Same (.int .u64 (Pk.wto bs i 3)) w) := fun w => with_any (Pk.wto bs i 2) 2 (Pk.bv bs (i + 2)) w (Pk.wto_bd bs i 2).1 (Pk.wto_bd bs i 2).2
  have W3 : ∀ w, Calls Tryz.prog 126 #[.int .u64 (Pk.wto bs i 3), .int .i64 3, .int .i64 (Pk.bv bs (i + 3))] w (Same (.int .u64 (Pk.wto bs i 4)) w) := fun w => with_any (Pk.wto bs i 3) 3 (Pk.bv bs (i + 3)) w (Pk.wto_bd bs i 3).1 (Pk.wto_bd bs i 3).2
  have W4 : ∀ w, Calls Tryz.prog 126 #[.int .u64 (Pk.wto bs i 4), .int .i64 4, .int .i64 (Pk.bv bs (i + 4))] w (Same (.int .u64 (Pk.wto bs i 5)) w) := fun w => with_any (Pk.wto bs i 4) 4 (Pk.bv bs (i + 4)) w (Pk.wto_bd bs i 4).1 (Pk.wto_bd bs i 4).2
  have W5 : ∀ w, Calls Tryz.prog 126 #[.int .u64 (Pk.wto bs i 5), .int .i64 5, .int .i64 (Pk.bv bs (i + 5))] w (Same (.int .u64 (Pk.wto bs i 6)) w) := fun w => with_any (Pk.wto bs i 5) 5 (Pk.bv bs (i + 5)) w (Pk.wto_bd bs i 5).1 (Pk.wto_bd bs i 5).2
  have W6 : ∀ w, Calls Tryz.prog 126 #[.int .u64 (Pk.wto bs i 6), .int .i64 6, .int .i64 (Pk.bv bs (i + 6))] w (Same (.int .u64 (Pk.wto bs i 7)) w) := fun w => with_any (Pk.wto bs i 6) 6 (Pk.bv bs (i + 6)) w (Pk.wto_bd bs i 6).1 (Pk.wto_bd bs i 6).2
  have W7 : ∀ w, Calls Tryz.prog 126 #[.int .u64 (Pk.wto bs i 7), .int .i64 7, .int .i64 (Pk.bv bs (i + 7))] w (Same (.int .u64 (Pk.wto bs i 8)) w) := fun w => with_any (Pk.wto bs i 7) 7 (Pk.bv bs (i + 7)) w (Pk.wto_bd bs i 7).1 (Pk.wto_bd bs i 7).2
  have b0 := Pk.bv_bd bs (i)
  have b1 := Pk.bv_bd bs (i + 1)
  have b2 := Pk.bv_bd bs (i + 2)
  have b3 := Pk.bv_bd bs (i + 3)
  have b4 := Pk.bv_bd bs (i + 4)
  have b5 := Pk.bv_bd bs (i + 5)
  have b6 := Pk.bv_bd bs (i + 6)
  have b7 := Pk.bv_bd bs (i + 7)
  generalize Pk.wto bs i 1 = x1 at *
  generalize Pk.wto bs i 2 = x2 at *
  generalize Pk.wto bs i 3 = x3 at *
  generalize Pk.wto bs i 4 = x4 at *
  generalize Pk.wto bs i 5 = x5 at *
  generalize Pk.wto bs i 6 = x6 at *
  generalize Pk.wto bs i 7 = x7 at *
  generalize Pk.wto bs i 8 = x8 at *
  have HW0 := Lib.hid W0; clear W0
  have HW1 := Lib.hid W1; clear W1
  have HW2 := Lib.hid W2; clear W2
  have HW3 := Lib.hid W3; clear W3
  have HW4 := Lib.hid W4; clear W4
  have HW5 := Lib.hid W5; clear W5
  have HW6 := Lib.hid W6; clear W6
  have HW7 := Lib.hid W7; clear W7
  obtain ⟨e, he⟩ : ∃ e : Nat, e = i + min 8 (bs.length - i) := ⟨_, rfl⟩
  have hp : Nat.min (e - i) 8 = (part bs i).length := by show min (e - i) 8 = _; rw [part_len]; omega
  have f1 : i ≤ e := by omega
  have f2 : (e : Int) ≤ (c : Int) := by omega
  have f3 : ¬ e = i := by omega
  have f4 : max (e : Int) 0 = (e : Int) := by omega
  have Hp := Lib.hid hp; clear hp
  have He := Lib.hid he; clear he
  go_enter Tryz.func163, Tryz.ntmps163
  go_wp2
  all_goals
    have hq1 : ((i : Int) + min 8 ((bs.length : Int) - (i : Int))) = (e : Int) := by have := He.out; omega
    first
      | (have hq : ((i : Int) + ((bs.length : Int) - (i : Int))) = (e : Int) := by omega
         rw [hq])
      | (have hq : ((i : Int) + 8) = (e : Int) := by omega
         rw [hq])
    clear hq1
    obtain ⟨w1, hw1⟩ : ∃ w1, w1 = w.alloc (.cells #[.int .u8 0, .int .u8 0, .int .u8 0, .int .u8 0, .int .u8 0, .int .u8 0, .int .u8 0, .int .u8 0] 197) := ⟨_, rfl⟩
    rw [← hw1]
    have hB : Below w.heap.size w w1.drew := by rw [hw1]; exact ((Below.refl _ _).alloc (Nat.le_refl _) _).drew
    have HG : Hid (w1.drew.heap[w.heap.size]? = some (.cells zero8.toArray 197 (0, 0))) := Lib.hid (by rw [hw1]; exact heap_alloc_new w _)
    have HC : Hid (∀ j, j < bs.length → w1.drew.cell? ⟨b, j, none⟩ = some (.int .u8 (Pk.bv bs j))) := Lib.hid (fun j hj => (hB.cell (p := ⟨b, j, none⟩) hb).trans (Hc.out j hj))
    clear hw1
    go_region_law (
      refine copied (bs := bs) (i := i) (b := b) (e := e) (g := w.heap.size) (w := w) ?k1 (.tmp 17) (.tmp 22) ?k2 ?k3 ?k4 ?k5 Hp.out ?k6 ?k7 (Nat.le_refl _) ?_
      case k1 => rfl
      case k2 => rfl
      case k3 => simp [go_sem]
      case k4 => simp [go_sem]
      case k5 => exact HG.out
      case k6 => exact HC.out
      case k7 => exact hB
      intro w4 HG4 hB4)
    have hg4 := HG4.out
    have c0 : w4.cell? ⟨w.heap.size, 0, none⟩ = some (.int .u8 (Pk.bv bs (i))) := oct_cell hg4 0 (by decide)
    have c1 : w4.cell? ⟨w.heap.size, 1, none⟩ = some (.int .u8 (Pk.bv bs (i + 1))) := oct_cell hg4 1 (by decide)
    have c2 : w4.cell? ⟨w.heap.size, 2, none⟩ = some (.int .u8 (Pk.bv bs (i + 2))) := oct_cell hg4 2 (by decide)
    have c3 : w4.cell? ⟨w.heap.size, 3, none⟩ = some (.int .u8 (Pk.bv bs (i + 3))) := oct_cell hg4 3 (by decide)
    have c4 : w4.cell? ⟨w.heap.size, 4, none⟩ = some (.int .u8 (Pk.bv bs (i + 4))) := oct_cell hg4 4 (by decide)
    have c5 : w4.cell? ⟨w.heap.size, 5, none⟩ = some (.int .u8 (Pk.bv bs (i + 5))) := oct_cell hg4 5 (by decide)
    have c6 : w4.cell? ⟨w.heap.size, 6, none⟩ = some (.int .u8 (Pk.bv bs (i + 6))) := oct_cell hg4 6 (by decide)
    have c7 : w4.cell? ⟨w.heap.size, 7, none⟩ = some (.int .u8 (Pk.bv bs (i + 7))) := oct_cell hg4 7 (by decide)
    clear hg4
    clear HG4 HG HC hB
    go_wp2
    have I0 := idx0 (Pk.bv bs i) (Pk.bv bs (i + 1)) (Pk.bv bs (i + 2)) (Pk.bv bs (i + 3)) (Pk.bv bs (i + 4)) (Pk.bv bs (i + 5)) (Pk.bv bs (i + 6)) (Pk.bv bs (i + 7))
    have I1 := idx1 (Pk.bv bs i) (Pk.bv bs (i + 1)) (Pk.bv bs (i + 2)) (Pk.bv bs (i + 3)) (Pk.bv bs (i + 4)) (Pk.bv bs (i + 5)) (Pk.bv bs (i + 6)) (Pk.bv bs (i + 7))
    have I2 := idx2 (Pk.bv bs i) (Pk.bv bs (i + 1)) (Pk.bv bs (i + 2)) (Pk.bv bs (i + 3)) (Pk.bv bs (i + 4)) (Pk.bv bs (i + 5)) (Pk.bv bs (i + 6)) (Pk.bv bs (i + 7))
    have I3 := idx3 (Pk.bv bs i) (Pk.bv bs (i + 1)) (Pk.bv bs (i + 2)) (Pk.bv bs (i + 3)) (Pk.bv bs (i + 4)) (Pk.bv bs (i + 5)) (Pk.bv bs (i + 6)) (Pk.bv bs (i + 7))
    have I4 := idx4 (Pk.bv bs i) (Pk.bv bs (i + 1)) (Pk.bv bs (i + 2)) (Pk.bv bs (i + 3)) (Pk.bv bs (i + 4)) (Pk.bv bs (i + 5)) (Pk.bv bs (i + 6)) (Pk.bv bs (i + 7))
    have I5 := idx5 (Pk.bv bs i) (Pk.bv bs (i + 1)) (Pk.bv bs (i + 2)) (Pk.bv bs (i + 3)) (Pk.bv bs (i + 4)) (Pk.bv bs (i + 5)) (Pk.bv bs (i + 6)) (Pk.bv bs (i + 7))
    have I6 := idx6 (Pk.bv bs i) (Pk.bv bs (i + 1)) (Pk.bv bs (i + 2)) (Pk.bv bs (i + 3)) (Pk.bv bs (i + 4)) (Pk.bv bs (i + 5)) (Pk.bv bs (i + 6)) (Pk.bv bs (i + 7))
    have I7 := idx7 (Pk.bv bs i) (Pk.bv bs (i + 1)) (Pk.bv bs (i + 2)) (Pk.bv bs (i + 3)) (Pk.bv bs (i + 4)) (Pk.bv bs (i + 5)) (Pk.bv bs (i + 6)) (Pk.bv bs (i + 7))
    refine wp_loop_rounds 9 ?_
    rw [rounds_succ]
    go_wp2_with fail
    with_reducible refine (HW0.out _).mono ?_
    rintro e1 w5 ⟨rfl, rfl⟩
    go_wp2
    rw [rounds_succ]
    go_wp2_with fail
    with_reducible refine (HW1.out _).mono ?_
    rintro e1 w5 ⟨rfl, rfl⟩
    go_wp2
    rw [rounds_succ]
    go_wp2_with fail
    with_reducible refine (HW2.out _).mono ?_
    rintro e1 w5 ⟨rfl, rfl⟩
    go_wp2
    rw [rounds_succ]
    go_wp2_with fail
    with_reducible refine (HW3.out _).mono ?_
    rintro e1 w5 ⟨rfl, rfl⟩
    go_wp2
    rw [rounds_succ]
    go_wp2_with fail
    with_reducible refine (HW4.out _).mono ?_
    rintro e1 w5 ⟨rfl, rfl⟩
    go_wp2
    rw [rounds_succ]
    go_wp2_with fail
    with_reducible refine (HW5.out _).mono ?_
    rintro e1 w5 ⟨rfl, rfl⟩
    go_wp2
    rw [rounds_succ]
    go_wp2_with fail
    with_reducible refine (HW6.out _).mono ?_
    rintro e1 w5 ⟨rfl, rfl⟩
    go_wp2
    rw [rounds_succ]
    go_wp2_with fail
    with_reducible refine (HW7.out _).mono ?_
    rintro e1 w5 ⟨rfl, rfl⟩
    go_wp2
    rw [rounds_succ]
    go_wp2
    go_ret
    exact ⟨rfl, hB4⟩
end Go.Proofs.YtknefjigdlbacaaGreatDoor
