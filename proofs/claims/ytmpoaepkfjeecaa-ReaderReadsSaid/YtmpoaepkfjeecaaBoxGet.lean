/-
  The walk of Read. By an AI agent.
-/
import Derived.Test.YtmpoaepkfjeecaaBoxRead
import Derived.Test.YtmpoaepkfjeecaaPackWord
import Derived.Laws.CopyOwn
namespace Go.Proofs.Ytmpoaepkfjeecaa
open Go.RowKit
abbrev zero6 : List Value := [.int .u64 0, .int .u64 0, .int .u64 0, .int .u64 0, .int .u64 0, .int .u64 0]
/-- What is copied out of words. -/
def first6 (l : List Int) : List Value := (l.take 6).map (Value.int .u64)
theorem first6_len (l : List Int) : (first6 l).length = min 6 l.length := by simp [first6]
theorem first6_one (l : List Int) : ∀ v ∈ first6 l, v.oneCell' = true := by
  intro v hv
  simp only [first6, List.mem_map] at hv
  obtain ⟨j, -, rfl⟩ := hv
  simp [Value.oneCell']
theorem splice_pad (l : List Int) : splice zero6 0 (first6 l) = (Bx.pad l).map (Value.int .u64) := by
  rw [← Bx.pad_splice l]
  unfold splice first6 zero6
  simp
theorem sl_cells {l : List Int} {w : World} {A : Option Addr} {B : Nat} (h : Sl .u64 w B A l) (h0 : 0 < (first6 l).length) : ∃ ad, A = some ad ∧ ∀ j v, (first6 l)[j]? = some v → w.cell? (ad.add j) = some v := by
  rcases h with rfl | ⟨b, off, rfl, hb, hc⟩
  · simp [first6] at h0
  · refine ⟨_, rfl, fun j v hj => ?_⟩
    have hadd : (⟨b, off, none⟩ : Addr).add j = ⟨b, off + j, none⟩ := by unfold Addr.add; split <;> simp_all
    have hjl : j < (first6 l).length := (List.getElem?_eq_some_iff.1 hj).1
    have hjl' := hjl
    rw [first6_len] at hjl'
    rw [List.getElem?_eq_getElem hjl] at hj
    simp [first6] at hj
    rw [hadd, hc _ (by omega), ← hj]
theorem pad_wf {l : List Int} (hx : ∀ x ∈ l, 0 ≤ x ∧ x ≤ 18446744073709551615) : ∀ x ∈ Bx.pad l, 0 ≤ x ∧ x ≤ 18446744073709551615 := by
  intro x h
  simp only [Bx.pad, List.mem_map] at h
  obtain ⟨k, -, rfl⟩ := h
  exact getD_wf hx k
/-- The cells behind the i-th one. -/
theorem pad_sl {l : List Int} {w : World} {g i : Nat} {t : TypeId} (h : w.heap[g]? = some (.cells ((Bx.pad l).map (Value.int .u64)).toArray t (0, 0))) : Sl .u64 w w.heap.size (some ⟨g, i, none⟩) ((Bx.pad l).drop i) := by
  refine .inr ⟨g, i, rfl, (Array.getElem?_eq_some_iff.1 h).1, fun j hj => ?_⟩
  rw [List.length_drop] at hj
  simp [World.cell?, h]
theorem pad_cell0 {l : List Int} {w : World} {g : Nat} {t : TypeId} (h : w.heap[g]? = some (.cells ((Bx.pad l).map (Value.int .u64)).toArray t (0, 0))) : w.cell? ⟨g, 0, none⟩ = some (.int .u64 (l.getD 0 0)) := by
  simp [World.cell?, h, Bx.pad_cells]
set_option maxRecDepth 100000 in
set_option maxHeartbeats 2000000 in
theorem read_any (l : List Int) (A : Option Addr) (c : Nat) (w : World) (hl : l.length ≤ 1000000) (hx : ∀ x ∈ l, 0 ≤ x ∧ x ≤ 18446744073709551615) (h : Sl .u64 w w.heap.size A l) :
    Calls Try.prog 33 #[.slice A l.length c] w (Gives (texts (Bx.key l) (Bx.val l)) w) := by
  have hy := getD_wf hx 0
  have L := fun w => lens_any (l.getD 0 0) w hy.1 hy.2
  obtain ⟨y, hyy⟩ : ∃ y, y = l.getD 0 0 := ⟨_, rfl⟩
  obtain ⟨k, hk, hk16⟩ := Bx.lk_nat (l.getD 0 0)
  obtain ⟨v, hv, hv24⟩ := Bx.lv_nat (l.getD 0 0)
  have ek : Bx.key l = Pk.txt ((Bx.pad l).drop 1) k := by unfold Bx.key; rw [hk, Int.toNat_natCast, Bx.pad_txt (by omega)]
  have hm2 : Pk.cnt k ≤ 2 := Bx.cnt_le (by omega)
  have ev : Bx.val l = Pk.txt ((Bx.pad l).drop (1 + Pk.cnt k)) v := by unfold Bx.val; rw [hk, hv, Int.toNat_natCast, Int.toNat_natCast, Bx.pad_txt (by omega)]
  rw [hk, hv, ← hyy] at L
  have HYY := Lib.hid hyy; clear hyy
  have M := fun w => many_any (k : Int) w (by omega) (by omega)
  rw [← Pk.cnt_many] at M
  rw [ek, ev]
  clear ek ev hk hv
  obtain ⟨m, hm⟩ : ∃ m, m = Pk.cnt k := ⟨_, rfl⟩
  rw [← hm] at M hm2 ⊢
  clear hm
  have T1 : ∀ (w : World) g c, Sl .u64 w w.heap.size (some ⟨g, 1, none⟩) ((Bx.pad l).drop 1) → Calls Try.prog 43 #[.slice (some ⟨g, 1, none⟩) 5 c, .int .i64 k] w (Gives (.string ⟨(Pk.txt ((Bx.pad l).drop 1) k).toArray⟩) w) := fun w g c h => by
    have hl : ((Bx.pad l).drop 1).length = 5 := by rw [List.length_drop, Bx.pad_len]
    have := text_any ((Bx.pad l).drop 1) (some ⟨g, 1, none⟩) c k w (by omega) (by omega) (fun x hm => pad_wf hx x (List.mem_of_mem_drop hm)) h
    rwa [hl] at this
  have T2 : ∀ (w : World) g c, Sl .u64 w w.heap.size (some ⟨g, 1 + m, none⟩) ((Bx.pad l).drop (1 + m)) → Calls Try.prog 43 #[.slice (some ⟨g, 1 + m, none⟩) (5 - m) c, .int .i64 v] w (Gives (.string ⟨(Pk.txt ((Bx.pad l).drop (1 + m)) v).toArray⟩) w) := fun w g c h => by
    have hl : ((Bx.pad l).drop (1 + m)).length = 5 - m := by rw [List.length_drop, Bx.pad_len]; omega
    have := text_any ((Bx.pad l).drop (1 + m)) (some ⟨g, 1 + m, none⟩) c v w (by omega) (by omega) (fun x hm => pad_wf hx x (List.mem_of_mem_drop hm)) h
    rwa [hl] at this
  have HL := Lib.hid L; clear L
  have HM := Lib.hid M; clear M
  have HT1 := Lib.hid T1; clear T1
  have HT2 := Lib.hid T2; clear T2
  clear hx hy
  obtain ⟨ta, hta⟩ : ∃ ta, ta = Pk.txt ((Bx.pad l).drop 1) k := ⟨_, rfl⟩
  obtain ⟨tb, htb⟩ : ∃ tb, tb = Pk.txt ((Bx.pad l).drop (1 + m)) v := ⟨_, rfl⟩
  rw [← hta] at HT1 ⊢
  rw [← htb] at HT2 ⊢
  clear hta htb
  go_enter Try.func33, Try.ntmps33
  go_wp2_with (refine wpList_copy_splice ?k1 (.tmp 8) (.tmp 9) 23 23 ?k2 22 Try.underlying23 size_u64 (some ⟨w.heap.size, 0, none⟩) A 6 6 l.length c ?k3 ?k4 w.heap.size 0 zero6 82 ?k5 (first6 l) ?k6 ?k7 ?k8 (first6_one l) w.heap.size w ?k9 (Nat.le_refl _) ?_; (case k1 => rfl); (case k2 => rfl); (case k3 => simp [go_sem]); (case k4 => simp [go_sem]); (case k5 => exact heap_alloc_new w _); (case k6 => rw [first6_len]; show min 6 _ = min _ 6; omega); (case k7 => exact fun h0 => ⟨rfl, sl_cells (h.below ((Below.refl _ _).alloc (Nat.le_refl _) _)) h0⟩); (case k8 => rw [first6_len]; show 0 + min 6 _ ≤ 6; omega); (case k9 => exact (Below.refl _ _).alloc (Nat.le_refl _) _); intro w2 HG2 hB2; have HG := HG2.out; rw [splice_pad] at HG; have g0 := pad_cell0 HG; rw [← HYY.out] at g0; have S1 := pad_sl (i := 1) HG; have S2 := pad_sl (i := 1 + m) HG; clear HG HG2)
  go_wp2_with fail
  with_reducible refine (HL.out _).mono ?_
  rintro e w3 ⟨rfl, rfl⟩
  go_wp2_with fail
  with_reducible refine (HT1.out _ _ _ S1).mono ?_
  rintro e w3 ⟨rfl, hb3⟩
  go_wp2_with fail
  with_reducible refine (HM.out _).mono ?_
  rintro e w4 ⟨rfl, rfl⟩
  go_wp2_with fail
  with_reducible refine (HT2.out _ _ _ ((S2.below hb3).mono hb3.size)).mono ?_
  rintro e w4 ⟨rfl, hb4⟩
  go_wp2
  go_ret2
  exact ⟨rfl, hB2.trans ((below_then hb3 hb4).mono hB2.size)⟩
end Go.Proofs.Ytmpoaepkfjeecaa
