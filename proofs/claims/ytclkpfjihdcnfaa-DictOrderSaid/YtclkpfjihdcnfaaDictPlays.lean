/-
  The walk of DictPlays. By an AI agent.
-/
import Derived.Test.YtclkpfjihdcnfaaDictAwake
set_option linter.unusedSimpArgs false
namespace Go.Proofs.Ytclkpfjihdcnfaa
open Go.RowKit
open Dc (Pr)
/-- A step: what is done, its key, its value. -/
abbrev Stp := Int × ByteArray × ByteArray
/-- A slice's address under which steps lie. -/
def Steps (w : World) (A : Option Addr) (ss : List Stp) : Prop :=
  ss = [] ∨ ∃ b off, A = some ⟨b, off, none⟩ ∧ b < w.heap.size ∧ ∀ j (h : j < ss.length), w.cell? ⟨b, off + j * 3, none⟩ = some (.int .i64 ss[j].1) ∧ w.cell? ⟨b, off + j * 3 + 1, none⟩ = some (.string ss[j].2.1) ∧ w.cell? ⟨b, off + j * 3 + 2, none⟩ = some (.string ss[j].2.2)
def sv (o : Option ByteArray) : ByteArray := o.getD ⟨#[]⟩
def sd (o : Option ByteArray) : Bool := o.isSome
theorem ans_eq (o : Option ByteArray) : ans o = .tuple #[.string (sv o), .bool (sd o)] := by cases o <;> rfl
/-- A block that a change of the map leaves alone: of another type. -/
theorem Sp.far {p B : Nat} {v v' : Value} {w w' : World} {l : List Pr} (h : Sp p v v' w w') (hp : Mp B w p v l) {k : Nat} {c : Array Value} {t : TypeId} (hk : w.heap[k]? = some (.cells c t (0, 0))) (h1 : t ≠ 52) (h2 : t ≠ 45) : w'.heap[k]? = some (.cells c t (0, 0)) := by
  refine (h.block k (Array.getElem?_eq_some_iff.1 hk).1 (fun e => ?_) (own_ne hp.row hk h1)).trans hk
  subst e
  rw [hp.own] at hk
  cases hk
  exact h2 rfl
theorem Row.alloc {B : Nat} {t : TypeId} {w : World} {v : Value} {l : List Pr} (h : Row B t w v l) (o : Obj) : Row B t (w.alloc o) v l := World.ownsRow.alloc h o
theorem Row.below {B : Nat} {t : TypeId} {w w' : World} {v : Value} {l : List Pr} (h : Row B t w v l) (hb : Below w.heap.size w w') : Row B t w' v l := own_below h hb (Nat.le_refl _)
theorem Row.mono {B B' : Nat} {t : TypeId} {w : World} {v : Value} {l : List Pr} (h : Row B t w v l) (hb : B' ≤ B) : Row B' t w v l := own_mono h hb
set_option maxRecDepth 100000 in
set_option maxHeartbeats 8000000 in
theorem plays_law (ss : List Stp) (A : Option Addr) (c : Nat) (w : World) (hA : Steps w A ss) (hn : ss.length ≤ 9223372036854775807) :
    Calls Try.prog 3 #[.slice A ss.length c] w (Gives (.bool true) w) := by
  by_cases h80 : 80 < ss.length
  · have h80Z : (80 : Int) < (ss.length : Int) := by omega
    go_enter Try.func3, Try.ntmps3
    go_wp2_with fail
    with_reducible refine (awake_any w).mono ?_
    rintro e w1 ⟨rfl, hb⟩
    go_wp2
    go_ret
    exact ⟨rfl, hb⟩
  · have h80Z : ¬ ((80 : Int) < (ss.length : Int)) := by omega
    have m0 := Mp.new w
    have m1 := m0.alloc (.cells #[] 40)
    have r1 : Row w.heap.size 40 ((w.alloc (.cells #[.bool true, .slice none 0 0] 45)).alloc (.cells #[] 40)) (.slice (some ⟨w.heap.size + 1, 0, none⟩) 0 0) [] := by
      have := World.ownsRow_lit (base := w.heap.size) (e := 40) (size := 2) (w.alloc (.cells #[.bool true, .slice none 0 0] 45)) #[] 0 (by simp) (by decide) (by decide)
      simpa [Row, enc] using this
    have hB1 : Below w.heap.size w ((w.alloc (.cells #[.bool true, .slice none 0 0] 45)).alloc (.cells #[] 40)) := ((Below.refl _ w).alloc (Nat.le_refl _) _).alloc (by simp) _
    have HA := Lib.hid hA; clear hA
    go_enter Try.func3, Try.ntmps3
    go_wp2_with fail
    with_reducible refine (new_any _).mono ?_
    rintro e w0 ⟨rfl, rfl⟩
    go_wp2
    go_loopw [4, 5] (fun vx i wr => ∃ (k : Nat) (v : Value) (l : List Pr), k ≤ ss.length ∧ i = .int .i64 k ∧ l.length ≤ k ∧ Mp w.heap.size wr w.heap.size v l ∧ Row w.heap.size 40 wr vx l ∧ Below w.heap.size w wr) (fun _ i _ => ss.length - (intOf i).toNat)
    case atStart => exact ⟨0, _, [], by omega, rfl, by simp, m1, r1, hB1⟩
    case round =>
      obtain ⟨k, v, l, hk, rfl, hlk, hm, hr, hB⟩ := hrel
      clear m0 m1 r1 hB1
      obtain ⟨xa, xc, rfl⟩ := hr.lens
      have HM := Lib.hid hm; clear hm
      have HR := Lib.hid hr; clear hr
      have HB := Lib.hid hB; clear hB
      by_cases hlt : k < ss.length
      · have hltZ : (k : Int) < (ss.length : Int) := by omega
        rcases HA.out with hnil | ⟨b, off, hAe, hb, hcell⟩
        · rw [hnil] at hlt; cases hlt
        subst hAe
        obtain ⟨d1, d2, d3⟩ := hcell k hlt
        clear hcell
        rw [← HB.out.cell (p := ⟨b, off + k * 3, none⟩) hb] at d1
        rw [← HB.out.cell (p := ⟨b, off + k * 3 + 1, none⟩) hb] at d2
        rw [← HB.out.cell (p := ⟨b, off + k * 3 + 2, none⟩) hb] at d3
        generalize ss[k].1 = kd at *
        generalize ss[k].2.1 = key at *
        generalize ss[k].2.2 = val at *
        have hs0 : (wr.alloc (.cells #[.int .i64 kd, .string key, .string val] 28)).heap[wr.heap.size]? = some (.cells #[.int .i64 kd, .string key, .string val] 28 (0, 0)) := heap_alloc_new wr _
        have hM1 := HM.out.alloc (.cells #[.int .i64 kd, .string key, .string val] 28)
        have hR1 := HR.out.alloc (.cells #[.int .i64 kd, .string key, .string val] 28)
        have hB1 := HB.out.alloc HB.out.size (.cells #[.int .i64 kd, .string key, .string val] 28)
        have hl6 : l.length ≤ 1000000 := by omega
        have G0 : Hid (∀ w1, Row w.heap.size 40 w1 (.slice xa l.length xc) l → Calls Try.prog 8 #[.slice xa l.length xc, .string key] w1 (Same (.tuple #[.string (sv (Dc.gt l key)), .bool (sd (Dc.gt l key))]) w1)) := Lib.hid fun w1 h => by rw [← ans_eq]; exact rget_any _ _ l key w1 h hl6
        have G1 : Hid (∀ w1, Mp w.heap.size w1 w.heap.size v l → Calls Try.prog 9 #[.pointer (some ⟨w.heap.size, 0, none⟩), .string key, .string val] w1 fun e w' => e = .returned (.tuple #[.string (sv (Dc.gt l key)), .bool (sd (Dc.gt l key))]) ∧ ∃ v', Mp w.heap.size w' w.heap.size v' (Dc.put l key val) ∧ Sp w.heap.size v v' w1 w') := Lib.hid fun w1 h => by rw [← ans_eq]; exact put_any _ _ v l key val w1 h hl6
        have G2 : Hid (∀ w1, Mp w.heap.size w1 w.heap.size v l → Calls Try.prog 11 #[.pointer (some ⟨w.heap.size, 0, none⟩), .string key] w1 fun e w' => e = .returned (.tuple #[.string (sv (Dc.gt l key)), .bool (sd (Dc.gt l key))]) ∧ ∃ v', Mp w.heap.size w' w.heap.size v' (Dc.del l key) ∧ Sp w.heap.size v v' w1 w') := Lib.hid fun w1 h => by rw [← ans_eq]; exact del_any _ _ v l key w1 h hl6
        have G3 : Hid (∀ w1, Mp w.heap.size w1 w.heap.size v l → Calls Try.prog 13 #[.pointer (some ⟨w.heap.size, 0, none⟩), .string key] w1 (Gives (.tuple #[.string (sv (Dc.gt l key)), .bool (sd (Dc.gt l key))]) w1)) := Lib.hid fun w1 h => by rw [← ans_eq]; exact get_any _ _ v l key w1 h hl6
        have G4 : Hid (∀ w1, Row w.heap.size 40 w1 (.slice xa l.length xc) l → Calls Try.prog 10 #[.slice xa l.length xc, .string key, .string val] w1 (Tells (Dc.put l key val) w1)) := Lib.hid fun w1 h => rput_any _ _ l key val w1 h hl6
        have G5 : Hid (∀ w1, Row w.heap.size 40 w1 (.slice xa l.length xc) l → Calls Try.prog 12 #[.slice xa l.length xc, .string key] w1 (Tells (Dc.del l key) w1)) := Lib.hid fun w1 h => rdel_any _ _ l key w1 h hl6
        have G6 : Hid (∀ w1 v1 (l' : List Pr), l'.length ≤ 81 → Mp w.heap.size w1 w.heap.size v1 l' → Calls Try.prog 16 #[.pointer (some ⟨w.heap.size, 0, none⟩), .int .i64 100] w1 (Tells l' w1)) := Lib.hid fun w1 v1 l' hl' h => by
          have := lall_any _ _ v1 l' 100 w1 h (by omega)
          rw [List.take_of_length_le (by omega)] at this; exact this
        have hp1 : (Dc.put l key val).length ≤ k + 1 := Nat.le_trans (Dc.len_put l key val HM.out.srt) (by omega)
        have hp2 : (Dc.del l key).length ≤ k + 1 := Nat.le_trans (Dc.len_del l key) (by omega)
        generalize sv (Dc.gt l key) = s0 at *
        generalize sd (Dc.gt l key) = b0 at *
        generalize Dc.put l key val = lp at *
        generalize Dc.del l key = ld at *
        have q1 : (s0.toList == s0.toList) = true := by simp
        have q2 : (b0 != b0) = false := by simp
        have M1 := Lib.hid hM1; clear hM1
        have R1 := Lib.hid hR1; clear hR1
        have B1 := Lib.hid hB1; clear hB1
        have S0 := Lib.hid hs0; clear hs0
        by_cases h1 : kd = 1
        · subst h1
          go_wp2_with fail
          with_reducible refine (G0.out _ R1.out).mono ?_
          rintro e w1 ⟨rfl, rfl⟩
          go_wp2_with fail
          with_reducible refine (G1.out _ M1.out).mono ?_
          rintro e w2 ⟨rfl, v2, hm2, hs2⟩
          have hss := hs2.far M1.out S0.out (by decide) (by decide)
          have e1 : w2.cell? ⟨wr.heap.size, 1, none⟩ = some (.string key) := by simp [World.cell?, hss]
          have e2 : w2.cell? ⟨wr.heap.size, 2, none⟩ = some (.string val) := by simp [World.cell?, hss]
          have R2 := Lib.hid (hs2.list M1.out R1.out (by decide) (by decide))
          have B2 := Lib.hid (B1.out.trans (hs2.below M1.out))
          have M2 := Lib.hid hm2; clear hm2 hs2 hss
          go_wp2_with fail
          with_reducible refine (G4.out _ R2.out).mono ?_
          rintro e w3 ⟨v3, rfl, hr3, hb3⟩
          have R3 := Lib.hid (hr3.mono B2.out.size)
          have M3 := Lib.hid (M2.out.below hb3)
          have B3 := Lib.hid (B2.out.trans (hb3.mono B2.out.size))
          clear hr3 hb3 e1 e2
          obtain ⟨a3, c3, rfl⟩ := Row.lens R3.out
          have q3 : ((lp.length : Int) != (lp.length : Int)) = false := by simp
          go_wp2_with fail
          with_reducible refine (len_any _ _ _ _ _ M3.out).mono ?_
          rintro e w6 ⟨rfl, rfl⟩
          go_wp2_with fail
          with_reducible refine (G6.out _ _ _ (by omega) M3.out).mono ?_
          rintro e w7 ⟨v7, rfl, hr7, hb7⟩
          have hr8 := R3.out.below hb7
          have R7 := Lib.hid hr7; clear hr7
          have R8 := Lib.hid hr8; clear hr8
          go_wp2_with fail
          with_reducible refine (rsame_any _ _ _ _ _ _ R7.out R8.out (by omega)).mono ?_
          rintro e w8 ⟨rfl, hb8⟩
          have hb9 : Below w3.heap.size w3 w8 := hb7.trans (hb8.mono hb7.size)
          have M9 := Lib.hid (M3.out.below hb9)
          have R9 := Lib.hid (R3.out.below hb9)
          have B9 := Lib.hid (B3.out.trans (hb9.mono B3.out.size))
          clear hb7 hb8 hb9 R7 R8
          go_wp2
          go_roundw
          case rel => exact ⟨k + 1, _, lp, by omega, by go_num, by omega, M9.out, R9.out, B9.out⟩
          case measure => simp [intOf]; omega
        · by_cases h2 : kd = 2
          · subst h2
            go_wp2_with fail
            with_reducible refine (G0.out _ R1.out).mono ?_
            rintro e w1 ⟨rfl, rfl⟩
            go_wp2_with fail
            with_reducible refine (G2.out _ M1.out).mono ?_
            rintro e w2 ⟨rfl, v2, hm2, hs2⟩
            have hss := hs2.far M1.out S0.out (by decide) (by decide)
            have e1 : w2.cell? ⟨wr.heap.size, 1, none⟩ = some (.string key) := by simp [World.cell?, hss]
            have e2 : w2.cell? ⟨wr.heap.size, 2, none⟩ = some (.string val) := by simp [World.cell?, hss]
            have R2 := Lib.hid (hs2.list M1.out R1.out (by decide) (by decide))
            have B2 := Lib.hid (B1.out.trans (hs2.below M1.out))
            have M2 := Lib.hid hm2; clear hm2 hs2 hss
            go_wp2_with fail
            with_reducible refine (G5.out _ R2.out).mono ?_
            rintro e w3 ⟨v3, rfl, hr3, hb3⟩
            have R3 := Lib.hid (hr3.mono B2.out.size)
            have M3 := Lib.hid (M2.out.below hb3)
            have B3 := Lib.hid (B2.out.trans (hb3.mono B2.out.size))
            clear hr3 hb3 e1 e2
            obtain ⟨a3, c3, rfl⟩ := Row.lens R3.out
            have q3 : ((ld.length : Int) != (ld.length : Int)) = false := by simp
            go_wp2_with fail
            with_reducible refine (len_any _ _ _ _ _ M3.out).mono ?_
            rintro e w6 ⟨rfl, rfl⟩
            go_wp2_with fail
            with_reducible refine (G6.out _ _ _ (by omega) M3.out).mono ?_
            rintro e w7 ⟨v7, rfl, hr7, hb7⟩
            have hr8 := R3.out.below hb7
            have R7 := Lib.hid hr7; clear hr7
            have R8 := Lib.hid hr8; clear hr8
            go_wp2_with fail
            with_reducible refine (rsame_any _ _ _ _ _ _ R7.out R8.out (by omega)).mono ?_
            rintro e w8 ⟨rfl, hb8⟩
            have hb9 : Below w3.heap.size w3 w8 := hb7.trans (hb8.mono hb7.size)
            have M9 := Lib.hid (M3.out.below hb9)
            have R9 := Lib.hid (R3.out.below hb9)
            have B9 := Lib.hid (B3.out.trans (hb9.mono B3.out.size))
            clear hb7 hb8 hb9 R7 R8
            go_wp2
            go_roundw
            case rel => exact ⟨k + 1, _, ld, by omega, by go_num, by omega, M9.out, R9.out, B9.out⟩
            case measure => simp [intOf]; omega
          · have h1' : (kd == 1) = false := by simp [h1]
            have h2' : (kd == 2) = false := by simp [h2]
            go_wp2_with fail
            with_reducible refine (G0.out _ R1.out).mono ?_
            rintro e w1 ⟨rfl, rfl⟩
            go_wp2_with fail
            with_reducible refine (G3.out _ M1.out).mono ?_
            rintro e w3 ⟨rfl, hb3⟩
            have R3 := Lib.hid (R1.out.below hb3)
            have M3 := Lib.hid (M1.out.below hb3)
            have B3 := Lib.hid (B1.out.trans (hb3.mono B1.out.size))
            clear hb3
            have q3 : ((l.length : Int) != (l.length : Int)) = false := by simp
            go_wp2_with fail
            with_reducible refine (len_any _ _ _ _ _ M3.out).mono ?_
            rintro e w6 ⟨rfl, rfl⟩
            go_wp2_with fail
            with_reducible refine (G6.out _ _ _ (by omega) M3.out).mono ?_
            rintro e w7 ⟨v7, rfl, hr7, hb7⟩
            have hr8 := R3.out.below hb7
            have R7 := Lib.hid hr7; clear hr7
            have R8 := Lib.hid hr8; clear hr8
            go_wp2_with fail
            with_reducible refine (rsame_any _ _ _ _ _ _ R7.out R8.out (by omega)).mono ?_
            rintro e w8 ⟨rfl, hb8⟩
            have hb9 : Below w3.heap.size w3 w8 := hb7.trans (hb8.mono hb7.size)
            have M9 := Lib.hid (M3.out.below hb9)
            have R9 := Lib.hid (R3.out.below hb9)
            have B9 := Lib.hid (B3.out.trans (hb9.mono B3.out.size))
            clear hb7 hb8 hb9 R7 R8
            go_wp2
            go_roundw
            case rel => exact ⟨k + 1, _, l, by omega, by go_num, by omega, M9.out, R9.out, B9.out⟩
            case measure => simp [intOf]; omega
      · obtain rfl : k = ss.length := by omega
        go_wp2_with fail
        with_reducible refine (awake_any _).mono ?_
        rintro e w1 ⟨rfl, hb⟩
        go_wp2
        go_ret
        exact ⟨rfl, HB.out.trans (hb.mono HB.out.size)⟩
end Go.Proofs.Ytclkpfjihdcnfaa
