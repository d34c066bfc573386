/-
  Several texts in one: The walk of Read; The walks of byteAt, Hash and the document's own Hash; The walks of Words, and of the document's own Words. By an AI agent.
-/
import Derived.Test.YtknefjigdlbacaaGreatDoorSkFAQ
import Derived.Laws.CopyOwn
import Derived.Test.YtknefjigdlbacaaGreatDoorSkFAI
import Derived.Lib.IndexBytes
import Derived.Laws.IdiomStrings
namespace Go.Proofs.YtknefjigdlbacaaGreatDoor
open Go.RowKit
abbrev zero6 : List Value := [.int .u64 0, .int .u64 0, .int .u64 0, .int .u64 0, .int .u64 0, .int .u64 0]
/-- What is copied out of words. -/
def first6 (l : List Int) : List Value := (l.take 6).map (Value.int .u64)
theorem first6_len (l : List Int) : (first6 l).length = min 6 l.length := by simp [first6]
theorem first6_one (l : List Int) : ∀ v ∈ first6 l, v.oneCell' = true := by
  intro v hv
  simp only [first6, List.mem_map] at hv
  obtain ⟨j, -, rfl⟩ := hv
  simp [Value.oneCell']
theorem splice_pad (l : List Int) : splice zero6 0 (first6 l) = (Bx.pad l).map (Value.int .u64) := by
  rw [← Bx.pad_splice l]
  unfold splice first6 zero6
  simp
theorem sl_cells {l : List Int} {w : World} {A : Option Addr} {B : Nat} (h : Sl .u64 w B A l) (h0 : 0 < (first6 l).length) : ∃ ad, A = some ad ∧ ∀ j v, (first6 l)[j]? = some v → w.cell? (ad.add j) = some v := by
  rcases h with rfl | ⟨b, off, rfl, hb, hc⟩
  · simp [first6] at h0
  · refine ⟨_, rfl, fun j v hj => ?_⟩
    have hadd : (⟨b, off, none⟩ : Addr).add j = ⟨b, off + j, none⟩ := by unfold Addr.add; split <;> simp_all
    have hjl : j < (first6 l).length := (List.getElem?_eq_some_iff.1 hj).1
    have hjl' := hjl
    rw [first6_len] at hjl'
    rw [List.getElem?_eq_getElem hjl] at hj
    simp [first6] at hj
    rw [hadd, hc _ (by omega), ← hj]
theorem pad_wf {l : List Int} (hx : ∀ x ∈ l, 0 ≤ x ∧ x ≤ 18446744073709551615) : ∀ x ∈ Bx.pad l, 0 ≤ x ∧ x ≤ 18446744073709551615 := by
  intro x h
  simp only [Bx.pad, List.mem_map] at h
  obtain ⟨k, -, rfl⟩ := h
  exact getD_wf hx k
/-- The cells behind the i-th one. -/
theorem pad_sl {l : List Int} {w : World} {g i : Nat} {t : TypeId} (h : w.heap[g]? = some (.cells ((Bx.pad l).map (Value.int .u64)).toArray t (0, 0))) : Sl .u64 w w.heap.size (some ⟨g, i, none⟩) ((Bx.pad l).drop i) := by
  refine .inr ⟨g, i, rfl, (Array.getElem?_eq_some_iff.1 h).1, fun j hj => ?_⟩
  rw [List.length_drop] at hj
  simp [World.cell?, h]
theorem pad_cell0 {l : List Int} {w : World} {g : Nat} {t : TypeId} (h : w.heap[g]? = some (.cells ((Bx.pad l).map (Value.int .u64)).toArray t (0, 0))) : w.cell? ⟨g, 0, none⟩ = some (.int .u64 (l.getD 0 0)) := by
  simp [World.cell?, h, Bx.pad_cells]
set_option maxRecDepth 100000 in
set_option maxHeartbeats 2000000 in
theorem read_any (l : List Int) (A : Option Addr) (c : Nat) (w : World) (hl : l.length ≤ 1000000) (hx : ∀ x ∈ l, 0 ≤ x ∧ x ≤ 18446744073709551615) (h : Sl .u64 w w.heap.size A l) :
    Calls Tryz.prog 157 #[.slice A l.length c] w (Gives (texts (Bx.key l) (Bx.val l)) w) := by
  have hy := getD_wf hx 0
  have L := fun w => lens_any (l.getD 0 0) w hy.1 hy.2
  obtain ⟨y, hyy⟩ : ∃ y, y = l.getD 0 0 := ⟨_, rfl⟩
  obtain ⟨k, hk, hk16⟩ := Bx.lk_nat (l.getD 0 0)
  obtain ⟨v, hv, hv24⟩ := Bx.lv_nat (l.getD 0 0)
  have ek : Bx.key l = Pk.txt ((Bx.pad l).drop 1) k := by unfold Bx.key; rw [hk, Int.toNat_natCast, Bx.pad_txt (by omega)]
  have hm2 : Pk.cnt k ≤ 2 := Bx.cnt_le (by omega)
  have ev : Bx.val l = Pk.txt ((Bx.pad l).drop (1 + Pk.cnt k)) v := by unfold Bx.val; rw [hk, hv, Int.toNat_natCast, Int.toNat_natCast, Bx.pad_txt (by omega)]
  rw [hk, hv, ← hyy] at L
  have HYY := Lib.hid hyy; clear hyy
  have M := fun w => many_any (k : Int) w (by omega) (by omega)
  rw [← Pk.cnt_many] at M
  rw [ek, ev]
  clear ek ev hk hv
  obtain ⟨m, hm⟩ : ∃ m, m = Pk.cnt k := ⟨_, rfl⟩
  rw [← hm] at M hm2 ⊢
  clear hm
  have T1 : ∀ (w : World) g c, Sl .u64 w w.heap.size (some ⟨g, 1, none⟩) ((Bx.pad l).drop 1) → Calls Tryz.prog 165 #[.slice (some ⟨g, 1, none⟩) 5 c, .int .i64 k] w (Gives (.string ⟨(Pk.txt ((Bx.pad l).drop 1) k).toArray⟩) w) := fun w g c h => by
    have hl : ((Bx.pad l).drop 1).length = 5 := by rw [List.length_drop, Bx.pad_len]
    have := text_any ((Bx.pad l).drop 1) (some ⟨g, 1, none⟩) c k w (by omega) (by omega) (fun x hm => pad_wf hx x (List.mem_of_mem_drop hm)) h
    rwa [hl] at this
  have T2 : ∀ (w : World) g c, Sl .u64 w w.heap.size (some ⟨g, 1 + m, none⟩) ((Bx.pad l).drop (1 + m)) → Calls Tryz.prog 165 #[.slice (some ⟨g, 1 + m, none⟩) (5 - m) c, .int .i64 v] w (Gives (.string ⟨(Pk.txt ((Bx.pad l).drop (1 + m)) v).toArray⟩) w) := fun w g c h => by
    have hl : ((Bx.pad l).drop (1 + m)).length = 5 - m := by rw [List.length_drop, Bx.pad_len]; omega
    have := text_any ((Bx.pad l).drop (1 + m)) (some ⟨g, 1 + m, none⟩) c v w (by omega) (by omega) (fun x hm => pad_wf hx x (List.mem_of_mem_drop hm)) h
    rwa [hl] at this
  have HL := Lib.hid L; clear L
  have HM := Lib.hid M; clear M
  have HT1 := Lib.hid T1; clear T1
  have HT2 := Lib.hid T2; clear T2
  clear hx hy
  obtain ⟨ta, hta⟩ : ∃ ta, ta = Pk.txt ((Bx.pad l).drop 1) k := ⟨_, rfl⟩
  obtain ⟨tb, htb⟩ : ∃ tb, tb = Pk.txt ((Bx.pad l).drop (1 + m)) v := ⟨_, rfl⟩
  rw [← hta] at HT1 ⊢
  rw [← htb] at HT2 ⊢
  clear hta htb
  go_enter Tryz.func157, Tryz.ntmps157
  go_wp2_with (refine wpList_copy_splice ?k1 (.tmp 8) (.tmp 9) 29 29 ?k2 22 Tryz.underlying29 size_u64 (some ⟨w.heap.size, 0, none⟩) A 6 6 l.length c ?k3 ?k4 w.heap.size 0 zero6 188 ?k5 (first6 l) ?k6 ?k7 ?k8 (first6_one l) w.heap.size w ?k9 (Nat.le_refl _) ?_; (case k1 => rfl); (case k2 => rfl); (case k3 => simp [go_sem]); (case k4 => simp [go_sem]); (case k5 => exact heap_alloc_new w _); (case k6 => rw [first6_len]; show min 6 _ = min _ 6; omega); (case k7 => exact fun h0 => ⟨rfl, sl_cells (h.below ((Below.refl _ _).alloc (Nat.le_refl _) _)) h0⟩); (case k8 => rw [first6_len]; show 0 + min 6 _ ≤ 6; omega); (case k9 => exact (Below.refl _ _).alloc (Nat.le_refl _) _); intro w2 HG2 hB2; have HG := HG2.out; rw [splice_pad] at HG; have g0 := pad_cell0 HG; rw [← HYY.out] at g0; have S1 := pad_sl (i := 1) HG; have S2 := pad_sl (i := 1 + m) HG; clear HG HG2)
  go_wp2_with fail
  with_reducible refine (HL.out _).mono ?_
  rintro e w3 ⟨rfl, rfl⟩
  go_wp2_with fail
  with_reducible refine (HT1.out _ _ _ S1).mono ?_
  rintro e w3 ⟨rfl, hb3⟩
  go_wp2_with fail
  with_reducible refine (HM.out _).mono ?_
  rintro e w4 ⟨rfl, rfl⟩
  go_wp2_with fail
  with_reducible refine (HT2.out _ _ _ ((S2.below hb3).mono hb3.size)).mono ?_
  rintro e w4 ⟨rfl, hb4⟩
  go_wp2
  go_ret2
  exact ⟨rfl, hB2.trans ((below_then hb3 hb4).mono hB2.size)⟩
end Go.Proofs.YtknefjigdlbacaaGreatDoor
namespace Go.Proofs.YtknefjigdlbacaaGreatDoor
open Go.RowKit
theorem ba_getElem (s : ByteArray) (k : Nat) (h : k < s.size) : s[k] = s.data.toList[k]'(by simpa using h) := by
  simp [ByteArray.getElem_eq_getElem_data]
theorem ba_len (s : ByteArray) : s.data.toList.length = s.size := Array.length_toList
theorem roll_next {h : Nat} {s : ByteArray} {k : Nat} (hk : k < s.size) : Mx.roll h (s.data.toList.take (k + 1)) = Mx.step (Mx.roll h (s.data.toList.take k)) s[k] := by
  rw [Mx.roll_take (by rw [ba_len]; exact hk), ba_getElem s k hk]
theorem roll_all {h : Nat} {s : ByteArray} {k : Nat} (hk : s.size ≤ k) : Mx.roll h (s.data.toList.take k) = Mx.roll h s.data.toList := by
  rw [List.take_of_length_le (by rw [ba_len]; exact hk)]
set_option maxHeartbeats 1000000 in
theorem byteAt_any (s : ByteArray) (k : Nat) (w : World) (hk : k < s.size) : Calls Tryz.prog 71 #[.string s, .int .i64 (k : Int)] w (Same (.int .i32 (s[k].toNat : Int)) w) := by
  go_enter Tryz.func71, Tryz.ntmps71
  have hb := s[k].toNat_lt
  go_wp2
  go_ret
  exact ⟨rfl, rfl⟩
set_option maxHeartbeats 1000000 in
theorem hash_any (h : Nat) (s : ByteArray) (w : World) (hh : h < 18446744073709551616) (hs : s.size ≤ maxLen) : Calls Tryz.prog 21 #[.int .u64 (h : Int), .string s] w (Same (.int .u64 (Mx.hsh h s.data.toList : Nat)) w) := by
  unfold maxLen at hs
  go_enter Tryz.func21, Tryz.ntmps21
  go_wp2
  go_loop [5, 10] (fun a i => ∃ (k n : Nat), k ≤ s.size ∧ i = .int .i64 k ∧ a = .int .u64 (n : Int) ∧ n = Mx.roll h (s.data.toList.take k)) (fun _ i => s.size - (intOf i).toNat)
  case atStart => exact ⟨0, h, Nat.zero_le _, rfl, rfl, rfl⟩
  case round =>
    obtain ⟨k, n, hk, rfl, rfl, hn⟩ := hrel
    have hnl : n < 18446744073709551616 := hn ▸ Mx.roll_lt _ hh
    have Hn := Lib.hid hn; clear hn
    by_cases hlt : k < s.size
    · have hst := Mx.bits_step (s[k]) hnl
      have hbl := s[k].toNat_lt
      have hwr : IntKind.u64.wrap (s[k].toNat : Int) = (s[k].toNat : Int) := u64_wrap_small (by omega) (by omega)
      have Hnx : Hid (Mx.step n s[k] = Mx.roll h (s.data.toList.take (k + 1))) := Lib.hid (by rw [roll_next hlt, Hn.out])
      go_wp2_with (go_at_call 71; refine (byteAt_any _ _ _ hlt).mono ?_; rintro e w' ⟨rfl, rfl⟩)
      go_round
      case rel => exact ⟨k + 1, _, by omega, by go_num, rfl, Hnx.out⟩
      case measure => simp [intOf]; omega
    · have Hall : Hid (Mx.spr n = Mx.hsh h s.data.toList) := Lib.hid (by unfold Mx.hsh; rw [Hn.out, roll_all (by omega)])
      go_wp2_with (go_at_call 72; refine (spread_any _ _ hnl).mono ?_; rintro e w' ⟨rfl, rfl⟩)
      go_ret
      exact ⟨ret_int (by rw [Hall.out]), rfl⟩
set_option maxHeartbeats 1000000 in
theorem rhash_any (h : Nat) (s : ByteArray) (w : World) (hh : h < 18446744073709551616) (hs : s.size ≤ maxLen) : Calls Tryz.prog 43 #[.int .u64 (h : Int), .string s] w (Same (.int .u64 (Mx.hsh h s.data.toList : Nat)) w) := by
  unfold maxLen at hs
  go_enter Tryz.func43, Tryz.ntmps43
  go_wp2
  go_loop [5, 6] (fun a i => ∃ (k n : Nat), k ≤ s.size ∧ i = .int .i64 k ∧ a = .int .u64 (n : Int) ∧ n = Mx.roll h (s.data.toList.take k)) (fun _ i => s.size - (intOf i).toNat)
  case atStart => exact ⟨0, h, Nat.zero_le _, rfl, rfl, rfl⟩
  case round =>
    obtain ⟨k, n, hk, rfl, rfl, hn⟩ := hrel
    have hnl : n < 18446744073709551616 := hn ▸ Mx.roll_lt _ hh
    have Hn := Lib.hid hn; clear hn
    by_cases hlt : k < s.size
    · have Hnx : Hid (Mx.step n s[k] = Mx.roll h (s.data.toList.take (k + 1))) := Lib.hid (by rw [roll_next hlt, Hn.out])
      have hbl := Mx.byte_lt s[k]
      have X := fun w => xor_any n s[k].toNat w hnl hbl
      have T : ∀ w, Calls Tryz.prog 99 #[.int .u64 ((n ^^^ s[k].toNat : Nat) : Int), .int .u64 1099511628211] w (Same (.int .u64 (Mx.step n s[k] : Nat)) w) := fun w => times_any (n ^^^ s[k].toNat) 1099511628211 w
      have HX := Lib.hid X; clear X
      have HT := Lib.hid T; clear T
      go_wp2_with fail
      with_reducible refine (HX.out _).mono ?_
      rintro e w1 ⟨rfl, rfl⟩
      go_wp2_with fail
      with_reducible refine (HT.out _).mono ?_
      rintro e w1 ⟨rfl, rfl⟩
      go_wp2
      go_round
      case rel => exact ⟨k + 1, _, by omega, by go_num, rfl, Hnx.out⟩
      case measure => simp [intOf]; omega
    · have Hall : Hid (Mx.spr n = Mx.hsh h s.data.toList) := Lib.hid (by unfold Mx.hsh; rw [Hn.out, roll_all (by omega)])
      have X1 : ∀ w, Calls Tryz.prog 100 #[.int .u64 (n : Int), .int .u64 ((n : Int) / 4294967296)] w (Same (.int .u64 ((n ^^^ n / 4294967296 : Nat) : Int)) w) := fun w => by
        have := xor_any n (n / 4294967296) w hnl (Mx.div_lt hnl)
        rwa [Int.natCast_ediv] at this
      have T1 : ∀ w, Calls Tryz.prog 99 #[.int .u64 ((n ^^^ n / 4294967296 : Nat) : Int), .int .u64 11400714819323198485] w (Same (.int .u64 (Mx.mid n : Nat)) w) := fun w => times_any (n ^^^ n / 4294967296) 11400714819323198485 w
      have X2 : ∀ w, Calls Tryz.prog 100 #[.int .u64 (Mx.mid n : Nat), .int .u64 ((Mx.mid n : Int) / 536870912)] w (Same (.int .u64 (Mx.spr n : Nat)) w) := fun w => by
        have := xor_any (Mx.mid n) (Mx.mid n / 536870912) w (Mx.mid_lt n) (Mx.div_lt (Mx.mid_lt n))
        rwa [Int.natCast_ediv] at this
      have ml := Mx.mid_lt n
      have HX1 := Lib.hid X1; clear X1
      have HT1 := Lib.hid T1; clear T1
      have HX2 := Lib.hid X2; clear X2
      go_wp2_with fail
      with_reducible refine (HX1.out _).mono ?_
      rintro e w1 ⟨rfl, rfl⟩
      go_wp2_with fail
      with_reducible refine (HT1.out _).mono ?_
      rintro e w1 ⟨rfl, rfl⟩
      go_wp2_with fail
      with_reducible refine (HX2.out _).mono ?_
      rintro e w1 ⟨rfl, rfl⟩
      go_wp2
      go_ret
      exact ⟨ret_int (by rw [Hall.out]), rfl⟩
end Go.Proofs.YtknefjigdlbacaaGreatDoor
namespace Go.Proofs.YtknefjigdlbacaaGreatDoor
open Go.RowKit
theorem ba_bv {s : ByteArray} {k : Nat} (h : k < s.size) : (s[k].toNat : Int) = Pk.bv s.data.toList k := by
  rw [Pk.bv_in (by rw [ba_len]; exact h), ba_getElem s k h]
/-- What is handed back is a list of words. -/
def WordsOf (xs : List Int) (w : World) (e : Ending) (w' : World) : Prop := ∃ A c, e = .returned (.slice A xs.length c) ∧ Sl .u64 w' w'.heap.size A xs ∧ Below w.heap.size w w' ∧ (A = none → c = 0)
theorem wordsOf_of {xs : List Int} {n B : Nat} {w w' : World} {v : Value} (hn : n = xs.length) (hrow : w'.ownsRow B 22 1 v n (xs.map (Value.int .u64))) (hb : Below w.heap.size w w') : WordsOf xs w (.returned v) w' := by
  subst hn
  rcases hrow.2 with ⟨rfl, h0⟩ | ⟨g, cap, cur, rfl, _⟩
  · refine ⟨none, 0, by rw [h0], .inl (List.length_eq_zero_iff.1 h0), hb, fun _ => rfl⟩
  · exact ⟨_, _, rfl, Sl.of_own hrow, hb, fun h => nomatch h⟩
theorem own_below {B : Nat} {t : TypeId} {k : Nat} {v : Value} {n : Nat} {xs : List Value} {w w' : World} (h : w.ownsRow B t k v n xs) (hb : Below w.heap.size w w') : w'.ownsRow B t k v n xs := by
  refine ⟨h.1, ?_⟩
  rcases h.2 with h0 | ⟨g, cap, cur, h1, h2, h3, h4⟩
  · exact .inl h0
  · exact .inr ⟨g, cap, cur, h1, h2, (hb.block g (Array.getElem?_eq_some_iff.1 h3).1).trans h3, h4⟩
/-- The bytes of a text in memory of their own. -/
theorem bytes_any (s : ByteArray) (w : World) : ∃ C W, (convert 9 67 (.string s)).run Tryz.prog w = .ok (.slice (some ⟨w.heap.size, 0, none⟩) s.size C) W ∧ s.size ≤ C ∧ Below w.heap.size w W ∧ w.heap.size < W.heap.size ∧
    ∀ j, j < s.data.toList.length → W.cell? ⟨w.heap.size, j, none⟩ = some (.int .u8 (Pk.bv s.data.toList j)) := by
  refine ⟨_, _, run_bytes_of_string (P := Tryz.prog) w 9 67 5 s Tryz.underlying9 Tryz.underlying67 Tryz.underlying5, grownCap_ge _ _ _ _, ((Below.refl _ _).drew).alloc (Nat.le_refl _) _, ?_, fun j hj => ?_⟩
  · show w.heap.size < (w.heap.push _).size
    simp
  · have hj' : j < s.size := by rw [← ba_len]; exact hj
    have := World.cell?_alloc_mark w.drew (bytesRow s (grownCap w s.size 0 5)) 5 ((bytesRow s (grownCap w s.size 0 5)).size, (bytesRow s (grownCap w s.size 0 5)).size + 1) j
    rw [← ba_bv hj']
    refine Eq.trans this ?_
    have hjd : j < s.data.size := hj'
    simp [bytesRow, Array.getElem?_append]
    rw [if_pos hj', Array.getElem?_eq_getElem hjd]
    rfl
set_option maxRecDepth 100000 in
set_option maxHeartbeats 2000000 in
theorem words_any (s : ByteArray) (w : World) (hs : s.size ≤ 1099511627776) : Calls Tryz.prog 147 #[.string s] w (WordsOf (Pk.words s.data.toList) w) := by
  obtain ⟨i0, hi, hz0, hz1, hz2⟩ := info_parts info_u64
  have Hz0 := Lib.hid hz0; clear hz0
  have Hz1 := Lib.hid hz1; clear hz1
  have Hz2 := Lib.hid hz2; clear hz2
  have Hi := Lib.hid hi; clear hi
  obtain ⟨C, W, hconv, hC, hBW, hW, hcell⟩ := bytes_any s w
  have Hcell := Lib.hid hcell; clear hcell
  have M := fun w => many_any (s.size : Int) w (by omega) (by omega)
  rw [← Pk.cnt_many] at M
  obtain ⟨m, hm⟩ : ∃ m, m = Pk.cnt s.size := ⟨_, rfl⟩
  rw [← hm] at M
  have hm1 : s.size ≤ 8 * m ∧ 8 * m ≤ s.size + 7 := by rw [hm]; unfold Pk.cnt; omega
  have hw : Pk.words s.data.toList = Pk.wordsTo s.data.toList m := by unfold Pk.words; rw [ba_len, ← hm]
  rw [hw]
  clear hw hm
  have HM := Lib.hid M; clear M
  go_enter Tryz.func147, Tryz.ntmps147
  go_wp2_with fail
  with_reducible refine (HM.out _).mono ?_
  rintro e w1 ⟨rfl, rfl⟩
  go_wp2_with (with_reducible refine wpList_make_own _ rfl _ _ 29 rfl W.heap.size 22 i0 (.int .u64 0) 1 Tryz.underlying29 Hi.out Hz0.out Hz1.out .i64 .i64 (m : Int) m rfl rfl ?m1 ?m2 ?m3 ?m4 ?_)
  case m1 => rfl
  case m2 => have := Hz2.out; rw [this]; omega
  case m3 => unfold maxLen; omega
  case m4 => omega
  intro w1 hown hgrow
  have hB1 : Below W.heap.size W w1 := (Below.refl _ _).grown hgrow (Nat.le_refl _) (fun k e => by cases e)
  clear hgrow
  obtain ⟨v0, hv0⟩ : ∃ v0, v0 = Value.slice (some ⟨W.heap.size, 0, none⟩) 0 m := ⟨_, rfl⟩
  rw [← hv0] at hown ⊢
  clear hv0
  go_wp2
  go_loopw [4, 5] (fun v i wr => ∃ k n : Nat, n = 8 * k ∧ k ≤ m ∧ i = .int .i64 (n : Int) ∧ wr.ownsRow W.heap.size 22 1 v k ((Pk.wordsTo s.data.toList k).map (Value.int .u64)) ∧ Below W.heap.size W wr)
    (fun _ i _ => 8 * m - (intOf i).toNat)
  case atStart => exact ⟨0, 0, rfl, by omega, rfl, hown, hB1⟩
  case round =>
    clear hown hB1
    obtain ⟨k, n, hn, hk, rfl, hown, hB⟩ := hrel
    by_cases hlt : n < s.size
    · have hbs : w.heap.size < wr.heap.size := Nat.lt_of_lt_of_le hW hB.size
      have WO : Calls Tryz.prog 163 #[.slice (some ⟨w.heap.size, 0, none⟩) s.size C, .int .i64 (n : Int)] wr (Gives (.int .u64 (Pk.wto s.data.toList n 8)) wr) := by
        have := wordOf_any s.data.toList n w.heap.size C wr (by rw [ba_len]; exact hs) (by rw [ba_len]; exact hC) (by rw [ba_len]; exact hlt) hbs (fun j hj => (hB.cell (p := ⟨w.heap.size, j, none⟩) hW).trans (Hcell.out j hj))
        rwa [ba_len] at this
      have hnx : Pk.wordsTo s.data.toList (k + 1) = Pk.wordsTo s.data.toList k ++ [Pk.wto s.data.toList n 8] := by rw [Pk.wordsTo_succ, hn]
      have Hnx := Lib.hid hnx; clear hnx
      have HWO := Lib.hid WO; clear WO
      have Hn := Lib.hid hn; clear hn
      go_wp2_with fail
      with_reducible refine HWO.out.mono ?_
      rintro e w2 ⟨rfl, hb2⟩
      have hB2 : Below W.heap.size W w2 := hB.trans (hb2.mono hB.size)
      have hown2 : w2.ownsRow W.heap.size 22 1 _ k ((Pk.wordsTo s.data.toList k).map (Value.int .u64)) := own_below hown hb2
      clear hown hb2
      go_wp2_with (at_builtin; refine wpList_append_own _ rfl _ _ 29 rfl W.heap.size 22 i0 (.int .u64 0) 1 8 Tryz.underlying29 Hi.out Hz0.out Hz1.out Hz2.out rfl (by decide) _ _ _ rfl (hown2.alloc _) ⟨_, 0, none⟩ 1 1 [.int .u64 (Pk.wto s.data.toList n 8)] rfl rfl ?c1 ?c2 ?c3 ?c4 ?c5 ?_)
      case c1 => exact cell_one_new _ _ _
      case c2 => simp [Value.oneCell']
      case c3 => unfold maxLen; omega
      case c4 => omega
      case c5 => have := hB2.size; simp; omega
      intro v' w3 hown' hgrow _
      have hB3 : Below W.heap.size W w3 := (hB2.alloc hB2.size _).grown hgrow (by have := hB2.size; simp; omega) (fun j e => (hown2.lt j e).1)
      have hown3 : w3.ownsRow W.heap.size 22 1 v' (k + 1) ((Pk.wordsTo s.data.toList (k + 1)).map (Value.int .u64)) := by
        rw [Hnx.out]; simpa using hown'
      clear hown' hgrow hown2
      go_wp2
      go_roundw
      case rel => exact ⟨k + 1, n + 8, by have := Hn.out; omega, by have := Hn.out; omega, by go_num, hown3, hB3⟩
      case measure => have := Hn.out; simp [intOf]; omega
    · obtain rfl : k = m := by omega
      go_wp2
      go_ret
      exact wordsOf_of (Pk.wordsTo_len _ _).symm hown (hBW.trans (hB.mono hBW.size))
end Go.Proofs.YtknefjigdlbacaaGreatDoor
