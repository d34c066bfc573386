/-
  The walk of BoxTells. By an AI agent.
-/
import Derived.Test.YtofbhgghboffbaaBoxAwake
namespace Go.Proofs.Ytofbhgghboffbaa
open Go.RowKit
/-- What is handed back is words, and whether they are a box. -/
def MayBox (xs : List Int) (t : Bool) (w : World) (e : Ending) (w' : World) : Prop := ∃ A c, e = .returned (.tuple #[.slice A xs.length c, .bool t]) ∧ Sl .u64 w' w'.heap.size A xs ∧ Below w.heap.size w w'
theorem may_yes {xs : List Int} {w : World} {e : Ending} {w' : World} (h : BoxOf xs w e w') : MayBox xs true w e w' := h
theorem may_no {w : World} {e : Ending} {w' : World} (h : Same nobox w e w') : MayBox [] false w e w' := by
  obtain ⟨rfl, rfl⟩ := h
  exact ⟨none, 0, rfl, .inl rfl, Below.refl _ _⟩
/-- What both Words answer. -/
theorem words_both (k v : ByteArray) (hk : k.size ≤ 1000) (hv : v.size ≤ 1000) : ∃ (xs : List Int) (t : Bool), xs.length ≤ 1000 ∧ (∀ w, Calls Try.prog 6 #[.string k, .string v] w (MayBox xs t w)) ∧ (∀ w, Calls Try.prog 7 #[.string k, .string v] w (MayBox xs t w)) := by
  by_cases h : 16 < k.size ∨ 24 < v.size
  · exact ⟨[], false, by simp, fun w => (words_no k v w (by unfold maxLen; omega) (by unfold maxLen; omega) h).mono fun _ _ => may_no, fun w => (rwords_no k v w (by unfold maxLen; omega) (by unfold maxLen; omega) h).mono fun _ _ => may_no⟩
  · refine ⟨Bx.box k.data.toList v.data.toList, true, ?_, fun w => (words_yes k v w (by omega) (by omega)).mono fun _ _ => may_yes, fun w => (rwords_yes k v w (by omega) (by omega)).mono fun _ _ => may_yes⟩
    rw [Bx.box_len, ba_len, ba_len]; unfold Pk.cnt; omega
set_option maxHeartbeats 1000000 in
theorem tells_long (k v : ByteArray) (A : Option Addr) (len c : Nat) (w : World) (hk : k.size ≤ maxLen) (hv : v.size ≤ maxLen) (hl : len ≤ maxLen) (h : 1000 < k.size ∨ 1000 < v.size ∨ 60 < len) :
    Calls Try.prog 3 #[.string k, .string v, .slice A len c] w (Gives (.bool true) w) := by
  unfold maxLen at hk hv hl
  have AW := Lib.hid awake_any
  by_cases h1 : 1000 < k.size
  · clear h
    go_enter Try.func3, Try.ntmps3
    go_wp2_with fail
    with_reducible refine (AW.out _).mono ?_
    rintro e w' ⟨rfl, hb⟩
    go_wp2
    go_ret
    exact ⟨rfl, hb⟩
  · by_cases h2 : 1000 < v.size
    · clear h
      go_enter Try.func3, Try.ntmps3
      go_wp2_with fail
      with_reducible refine (AW.out _).mono ?_
      rintro e w' ⟨rfl, hb⟩
      go_wp2
      go_ret
      exact ⟨rfl, hb⟩
    · have h3 : 60 < len := by omega
      clear h
      go_enter Try.func3, Try.ntmps3
      go_wp2_with fail
      with_reducible refine (AW.out _).mono ?_
      rintro e w' ⟨rfl, hb⟩
      go_wp2
      go_ret
      exact ⟨rfl, hb⟩
set_option maxRecDepth 100000 in
set_option maxHeartbeats 4000000 in
theorem tells_short (k v : ByteArray) (l : List Int) (A : Option Addr) (c : Nat) (w : World) (hk : k.size ≤ 1000) (hv : v.size ≤ 1000) (hl : l.length ≤ 60)
    (hx : ∀ x ∈ l, 0 ≤ x ∧ x ≤ 18446744073709551615) (h : Sl .u64 w w.heap.size A l) :
    Calls Try.prog 3 #[.string k, .string v, .slice A l.length c] w (Gives (.bool true) w) := by
  obtain ⟨xs, t, hxl, W1, W2⟩ := words_both k v hk hv
  have S := fun (w : World) A A' c c' h h' => words_same xs A A' c c' w (by omega) h h'
  have R1 := fun w h => read_any l A c w (by omega) hx h
  have R2 := fun w h => rread_any l A c w (by omega) hx h
  have H1 := fun w => head_any k v w (by unfold maxLen; omega) (by unfold maxLen; omega)
  have H2 := fun w => rhead_any k v w
  have hy := Bx.hd_bd k.size v.size
  obtain ⟨ta, hta⟩ : ∃ ta, ta = Bx.key l := ⟨_, rfl⟩
  obtain ⟨tb, htb⟩ : ∃ tb, tb = Bx.val l := ⟨_, rfl⟩
  rw [← hta, ← htb] at R1 R2
  unfold texts at R1 R2
  generalize ByteArray.mk ta.toArray = sa at *
  generalize ByteArray.mk tb.toArray = sb at *
  clear hta htb ta tb
  generalize Bx.hd k.size v.size = y at *
  have ey : (y == y) = true := by simp
  have L1 := Lib.hid lens_any
  have L2 := Lib.hid rlens_any
  have Z1 := Lib.hid size_any
  have Z2 := Lib.hid rsize_any
  have HW1 := Lib.hid W1; clear W1
  have HW2 := Lib.hid W2; clear W2
  have HS := Lib.hid S; clear S
  have HR1 := Lib.hid R1; clear R1
  have HR2 := Lib.hid R2; clear R2
  have HH1 := Lib.hid H1; clear H1
  have HH2 := Lib.hid H2; clear H2
  have AW := Lib.hid awake_any
  have a1 : ¬ (1000 : Int) < (k.size : Int) := by omega
  have a2 : ¬ (1000 : Int) < (v.size : Int) := by omega
  have a3 : ¬ (60 : Int) < (l.length : Int) := by omega
  have HX := Lib.hid hx; clear hx
  go_enter Try.func3, Try.ntmps3
  go_wp2_with fail
  with_reducible refine (HW1.out _).mono ?_
  rintro e w1 ⟨A1, c1, rfl, hs1, hb1⟩
  go_wp2_with fail
  with_reducible refine (HW2.out _).mono ?_
  rintro e w2 ⟨A2, c2, rfl, hs2, hb2⟩
  have hB2 : Below w.heap.size w w2 := below_then hb1 hb2
  have hs1 := (hs1.below hb2).mono hb2.size
  clear hb1 hb2
  go_wp2_with fail
  with_reducible refine (HR1.out _ ((h.below hB2).mono hB2.size)).mono ?_
  rintro e w3 ⟨rfl, hb3⟩
  have hB3 : Below w.heap.size w w3 := below_then hB2 hb3
  have hs1 := (hs1.below hb3).mono hb3.size
  have hs2 := (hs2.below hb3).mono hb3.size
  clear hb3 hB2
  go_wp2_with fail
  with_reducible refine (HR2.out _ ((h.below hB3).mono hB3.size)).mono ?_
  rintro e w4 ⟨rfl, hb4⟩
  have hB4 : Below w.heap.size w w4 := below_then hB3 hb4
  have hs1 := (hs1.below hb4).mono hb4.size
  have hs2 := (hs2.below hb4).mono hb4.size
  clear hb4 hB3
  go_wp2_with fail
  with_reducible refine (HH2.out _).mono ?_
  rintro e w5 ⟨rfl, rfl⟩
  by_cases h0 : 0 < l.length
  · rcases h.below hB4 with rfl | ⟨b, off, rfl, hb, hc⟩
    · simp at h0
    have g0 := hc 0 h0
    have hz := HX.out _ (List.getElem_mem h0)
    obtain ⟨hz0, hz1⟩ := hz
    have o0 : off + 0 = off := by omega
    rw [o0] at g0
    clear hc o0
    generalize l[0] = z at *
    have e1 : (Bx.lk z == Bx.lk z) = true := by simp
    have e2 : (Bx.lv z == Bx.lv z) = true := by simp
    have e3 : (Bx.size z == Bx.size z) = true := by simp
    have L1 := Lib.hid (fun w => L1.out z w hz0 hz1)
    have L2 := Lib.hid (fun w => L2.out z w hz0 hz1)
    have Z1 := Lib.hid (fun w => Z1.out z w hz0 hz1)
    have Z2 := Lib.hid (fun w => Z2.out z w hz0 hz1)
    generalize Bx.lk z = p at *
    generalize Bx.lv z = q at *
    generalize Bx.size z = r at *
    go_wp2_with fail
    with_reducible refine (L1.out _).mono ?_
    rintro e w5 ⟨rfl, rfl⟩
    go_wp2_with fail
    with_reducible refine (L2.out _).mono ?_
    rintro e w5 ⟨rfl, rfl⟩
    go_wp2_with fail
    with_reducible refine (HS.out _ _ _ _ _ hs1 hs2).mono ?_
    rintro e w5 ⟨rfl, hb5⟩
    have hB5 : Below w.heap.size w w5 := below_then hB4 hb5
    go_wp2_with fail
    with_reducible refine (HH1.out _).mono ?_
    rintro e w6 ⟨rfl, rfl⟩
    go_wp2_with fail
    with_reducible refine (HH2.out _).mono ?_
    rintro e w6 ⟨rfl, rfl⟩
    go_wp2_with fail
    with_reducible refine (Z1.out _).mono ?_
    rintro e w6 ⟨rfl, rfl⟩
    go_wp2_with fail
    with_reducible refine (Z2.out _).mono ?_
    rintro e w6 ⟨rfl, rfl⟩
    go_wp2_with fail
    with_reducible refine (AW.out _).mono ?_
    rintro e w6 ⟨rfl, hb6⟩
    go_wp2
    go_ret
    exact ⟨rfl, below_then hB5 hb6⟩
  · have h00 : l.length = 0 := by omega
    have hz0 : 0 ≤ y := hy.1
    have hz1 : y ≤ 18446744073709551615 := by omega
    have e1 : (Bx.lk y == Bx.lk y) = true := by simp
    have e2 : (Bx.lv y == Bx.lv y) = true := by simp
    have e3 : (Bx.size y == Bx.size y) = true := by simp
    have L1 := Lib.hid (fun w => L1.out y w hz0 hz1)
    have L2 := Lib.hid (fun w => L2.out y w hz0 hz1)
    have Z1 := Lib.hid (fun w => Z1.out y w hz0 hz1)
    have Z2 := Lib.hid (fun w => Z2.out y w hz0 hz1)
    generalize Bx.lk y = p at *
    generalize Bx.lv y = q at *
    generalize Bx.size y = r at *
    go_wp2_with fail
    with_reducible refine (L1.out _).mono ?_
    rintro e w5 ⟨rfl, rfl⟩
    go_wp2_with fail
    with_reducible refine (L2.out _).mono ?_
    rintro e w5 ⟨rfl, rfl⟩
    go_wp2_with fail
    with_reducible refine (HS.out _ _ _ _ _ hs1 hs2).mono ?_
    rintro e w5 ⟨rfl, hb5⟩
    have hB5 : Below w.heap.size w w5 := below_then hB4 hb5
    go_wp2_with fail
    with_reducible refine (HH1.out _).mono ?_
    rintro e w6 ⟨rfl, rfl⟩
    go_wp2_with fail
    with_reducible refine (HH2.out _).mono ?_
    rintro e w6 ⟨rfl, rfl⟩
    go_wp2_with fail
    with_reducible refine (Z1.out _).mono ?_
    rintro e w6 ⟨rfl, rfl⟩
    go_wp2_with fail
    with_reducible refine (Z2.out _).mono ?_
    rintro e w6 ⟨rfl, rfl⟩
    go_wp2_with fail
    with_reducible refine (AW.out _).mono ?_
    rintro e w6 ⟨rfl, hb6⟩
    go_wp2
    go_ret
    exact ⟨rfl, below_then hB5 hb6⟩
end Go.Proofs.Ytofbhgghboffbaa
