/-
  The walk of TagBack. By an AI agent.
-/
import Derived.Test.YtddpfpodhkdjjaaTagAwake
set_option linter.unusedSimpArgs false
set_option linter.unusedVariables false
namespace Go.Proofs.Ytddpfpodhkdjjaa
open Go.RowKit
set_option maxRecDepth 100000 in
set_option maxHeartbeats 4000000 in
theorem back_any (x b m : Int) (w : World) (h0 : 0 ≤ x) (h1 : x ≤ 18446744073709551615) (b0 : 0 ≤ b) (b1 : b ≤ 18446744073709551615) (m0 : -9223372036854775808 ≤ m) (m1 : m ≤ 9223372036854775807) :
    Calls Try.prog 5 #[.int .u64 x, .int .u64 b, .int .i64 m] w (Says true w) := by
  have hd := Tg.div_bd h0 h1
  have K1 := Lib.hid fun w => block_any x w h0 h1
  have K2 := Lib.hid fun w => mark_any x w h0 h1
  have k3 := fun w => make_any (x / 8) (x % 8) w hd.1 (by omega) (by omega) (by omega)
  rw [Tg.mk_back h0 h1] at k3
  have K3 := Lib.hid k3
  have K4 := Lib.hid fun w => again_any x m w h0 h1 m0 m1
  have k5 := fun w => block_any (Tg.mk (x / 8) m) w (Tg.mk_bd _ _).1 (Tg.mk_bd _ _).2
  rw [Tg.mk_block m hd.1 hd.2] at k5
  have K5 := Lib.hid k5
  have K6 := Lib.hid fun w => fresh_any x w h0 h1
  have K7 := Lib.hid fun w => frozen_any x w h0 h1
  have K8 := Lib.hid fun w => holds_any x w h0 h1
  have K9 := Lib.hid fun w => make_any b m w b0 b1 m0 m1
  have Ka := Lib.hid fun w => of_any (Tg.mk b m) w (Tg.mk_bd _ _).1 (Tg.mk_bd _ _).2
  have f1 := Tg.not_both x
  have f2 := Tg.one_of x
  have f3 : Tg.hd x = false → Tg.fr x = false := fun h => by unfold Tg.fr; rw [h]; rfl
  have g1 : b < 2305843009213693952 → Tg.mk b m / 8 = b := fun h => Tg.mk_block m b0 h
  have g2 : 0 ≤ m → m ≤ 7 → Tg.mk b m % 8 = m := fun h k => Tg.mk_mark h k
  have q := eq_parts (Tg.mk b m / 8) (Tg.mk b m % 8) b m
  have eq : (b < 2305843009213693952 → 0 ≤ m → m ≤ 7 → (Tg.mk b m / 8 == b && Tg.mk b m % 8 == m) = true) := fun h k l => by rw [g1 h, g2 k l]; simp
  clear g1 g2 k3 k5 hd
  generalize Tg.hd x = A at K8 f2 f3
  generalize Tg.fr x = B at K6 f1 f2 f3
  generalize Tg.fz x = C at K7 f1 f2
  generalize (Tg.mk b m / 8 == b && Tg.mk b m % 8 == m) = Z at q eq
  generalize Tg.mk (x / 8) m = y at K4 K5
  generalize Tg.mk b m / 8 = u at Ka q
  generalize Tg.mk b m % 8 = v at Ka q
  generalize Tg.mk b m = z at K9 Ka
  generalize x / 8 = r at K1 K3 K5
  generalize x % 8 = s at K2 K3
  have q1 : (x != x) = false := by simp
  have q2 : (r != r) = false := by simp
  have EQ := Lib.hid eq
  clear eq
  have T : ∀ w : World, Calls Try.prog 13 #[] w (Says true w) := awake_any
  go_enter Try.func5, Try.ntmps5
  go_wp2_with fail
  with_reducible refine (K1.out _).mono ?_
  rintro e w1 ⟨rfl, c1⟩
  go_wp2_with fail
  with_reducible refine (K2.out _).mono ?_
  rintro e w2 ⟨rfl, c2⟩
  go_wp2_with fail
  with_reducible refine (K3.out _).mono ?_
  rintro e w3 ⟨rfl, rfl⟩
  go_wp2_with fail
  with_reducible refine (K4.out _).mono ?_
  rintro e w4 ⟨rfl, c4⟩
  go_wp2_with fail
  with_reducible refine (K5.out _).mono ?_
  rintro e w5 ⟨rfl, c5⟩
  go_wp2_with fail
  with_reducible refine (K1.out _).mono ?_
  rintro e w6 ⟨rfl, c6⟩
  go_wp2_with fail
  with_reducible refine (K6.out _).mono ?_
  rintro e w7 ⟨rfl, c7⟩
  have c := below_then (below_then (below_then (below_then (below_then c1 c2) c4) c5) c6) c7
  have D7 := Lib.hid c
  clear c c1 c2 c4 c5 c6 c7
  have F1 := Lib.hid f1
  have F2 := Lib.hid f2
  have F3 := Lib.hid f3
  clear f1 f2 f3
  cases A
  · have hB := F3.out rfl
    subst hB
    go_wp2_with fail
    with_reducible refine (K8.out _).mono ?_
    rintro e w8 ⟨rfl, c8⟩
    have D8 := Lib.hid (below_then D7.out c8)
    clear c8
    by_cases t1 : 2305843009213693952 ≤ b
    · go_wp2_with fail
      with_reducible refine (T _).mono ?_
      rintro e w9 ⟨rfl, c9⟩
      go_wp2
      go_ret
      exact ⟨rfl, below_then D8.out c9⟩
    · by_cases t2 : m < 0
      · go_wp2_with fail
        with_reducible refine (T _).mono ?_
        rintro e w9 ⟨rfl, c9⟩
        go_wp2
        go_ret
        exact ⟨rfl, below_then D8.out c9⟩
      · by_cases t3 : 7 < m
        · go_wp2_with fail
          with_reducible refine (T _).mono ?_
          rintro e w9 ⟨rfl, c9⟩
          go_wp2
          go_ret
          exact ⟨rfl, below_then D8.out c9⟩
        · have hz := EQ.out (by omega) (by omega) (by omega)
          subst hz
          go_wp2_with fail
          with_reducible refine (K9.out _).mono ?_
          rintro e w9 ⟨rfl, rfl⟩
          go_wp2_with fail
          with_reducible refine (Ka.out _).mono ?_
          rintro e w10 ⟨rfl, c10⟩
          go_wp2_with fail
          with_reducible refine (T _).mono ?_
          rintro e w11 ⟨rfl, c11⟩
          go_wp2
          go_ret
          exact ⟨rfl, below_then (below_then D8.out c10) c11⟩
  · cases B
    · have hC : C = true := by simpa using F2.out rfl
      subst hC
      go_wp2_with fail
      with_reducible refine (K8.out _).mono ?_
      rintro e w8 ⟨rfl, c8⟩
      go_wp2_with fail
      with_reducible refine (K6.out _).mono ?_
      rintro e wa ⟨rfl, ca⟩
      go_wp2_with fail
      with_reducible refine (K7.out _).mono ?_
      rintro e wb ⟨rfl, cb⟩
      have D8 := Lib.hid (below_then (below_then (below_then D7.out c8) ca) cb)
      clear c8 ca cb
      by_cases t1 : 2305843009213693952 ≤ b
      · go_wp2_with fail
        with_reducible refine (T _).mono ?_
        rintro e w9 ⟨rfl, c9⟩
        go_wp2
        go_ret
        exact ⟨rfl, below_then D8.out c9⟩
      · by_cases t2 : m < 0
        · go_wp2_with fail
          with_reducible refine (T _).mono ?_
          rintro e w9 ⟨rfl, c9⟩
          go_wp2
          go_ret
          exact ⟨rfl, below_then D8.out c9⟩
        · by_cases t3 : 7 < m
          · go_wp2_with fail
            with_reducible refine (T _).mono ?_
            rintro e w9 ⟨rfl, c9⟩
            go_wp2
            go_ret
            exact ⟨rfl, below_then D8.out c9⟩
          · have hz := EQ.out (by omega) (by omega) (by omega)
            subst hz
            go_wp2_with fail
            with_reducible refine (K9.out _).mono ?_
            rintro e w9 ⟨rfl, rfl⟩
            go_wp2_with fail
            with_reducible refine (Ka.out _).mono ?_
            rintro e w10 ⟨rfl, c10⟩
            go_wp2_with fail
            with_reducible refine (T _).mono ?_
            rintro e w11 ⟨rfl, c11⟩
            go_wp2
            go_ret
            exact ⟨rfl, below_then (below_then D8.out c10) c11⟩
    · have hC : C = false := by simpa using F1.out
      subst hC
      go_wp2_with fail
      with_reducible refine (K7.out _).mono ?_
      rintro e wb ⟨rfl, cb⟩
      go_wp2_with fail
      with_reducible refine (K8.out _).mono ?_
      rintro e w8 ⟨rfl, c8⟩
      go_wp2_with fail
      with_reducible refine (K6.out _).mono ?_
      rintro e wa ⟨rfl, ca⟩
      have D8 := Lib.hid (below_then (below_then (below_then D7.out cb) c8) ca)
      clear c8 ca cb
      by_cases t1 : 2305843009213693952 ≤ b
      · go_wp2_with fail
        with_reducible refine (T _).mono ?_
        rintro e w9 ⟨rfl, c9⟩
        go_wp2
        go_ret
        exact ⟨rfl, below_then D8.out c9⟩
      · by_cases t2 : m < 0
        · go_wp2_with fail
          with_reducible refine (T _).mono ?_
          rintro e w9 ⟨rfl, c9⟩
          go_wp2
          go_ret
          exact ⟨rfl, below_then D8.out c9⟩
        · by_cases t3 : 7 < m
          · go_wp2_with fail
            with_reducible refine (T _).mono ?_
            rintro e w9 ⟨rfl, c9⟩
            go_wp2
            go_ret
            exact ⟨rfl, below_then D8.out c9⟩
          · have hz := EQ.out (by omega) (by omega) (by omega)
            subst hz
            go_wp2_with fail
            with_reducible refine (K9.out _).mono ?_
            rintro e w9 ⟨rfl, rfl⟩
            go_wp2_with fail
            with_reducible refine (Ka.out _).mono ?_
            rintro e w10 ⟨rfl, c10⟩
            go_wp2_with fail
            with_reducible refine (T _).mono ?_
            rintro e w11 ⟨rfl, c11⟩
            go_wp2
            go_ret
            exact ⟨rfl, below_then (below_then D8.out c10) c11⟩
end Go.Proofs.Ytddpfpodhkdjjaa
