/-
  The walk of DictOrder. By an AI agent.
-/
import Derived.Test.YtclkpfjihdcnfaaDictPlays
import Derived.Deep.RegionHeld3
set_option linter.unusedSimpArgs false
namespace Go.Proofs.Ytclkpfjihdcnfaa
open Go.RowKit
open Dc (Pr)
/-- A slice's address under which pairs lie. -/
def Prs (w : World) (A : Option Addr) (ps : List Pr) : Prop :=
  ps = [] ∨ ∃ b off, A = some ⟨b, off, none⟩ ∧ b < w.heap.size ∧ ∀ j (h : j < ps.length), w.cell? ⟨b, off + j * 2, none⟩ = some (.string ps[j].1) ∧ w.cell? ⟨b, off + j * 2 + 1, none⟩ = some (.string ps[j].2)
/-- Two rows are apart. -/
def Apt (v u : Value) : Prop := ∀ j, u.ownBlock = some j → v.ownBlock ≠ some j
theorem Apt.symm {v u : Value} (h : Apt v u) : Apt u v := fun j hv hu => h j hu hv
theorem Apt.left {p C q : Nat} {v v2 u : Value} {w w2 : World} {m : List Pr} (h : Apt v u) (hs : Sp p v v2 w w2) (hq : Mp C w q u m) : Apt v2 u := fun j hu hv => by
  rcases hs.row j hv with h1 | h1
  · exact h j hu h1
  · have := (hq.row.lt j hu).2; omega
theorem puts_len (ps : List Pr) : (Dc.puts [] ps).length ≤ ps.length := by
  have := Dc.len_puts ps [] Dc.srt_nil; simpa using this
/-- A pair's cells, in whatever world that keeps what lay below. -/
theorem Prs.at {w : World} {A : Option Addr} {ps : List Pr} (h : Prs w A ps) {k : Nat} (hk : k < ps.length) : ∃ b off, A = some ⟨b, off, none⟩ ∧ ∀ j (hj : j < ps.length) w', Below w.heap.size w w' → w'.cell? ⟨b, off + j * 2, none⟩ = some (.string ps[j].1) ∧ w'.cell? ⟨b, off + j * 2 + 1, none⟩ = some (.string ps[j].2) := by
  rcases h with rfl | ⟨b, off, hA, hb, hc⟩
  · cases hk
  · exact ⟨b, off, hA, fun j hj w' hB => ⟨(hB.cell (p := ⟨b, off + j * 2, none⟩) hb).trans (hc j hj).1, (hB.cell (p := ⟨b, off + j * 2 + 1, none⟩) hb).trans (hc j hj).2⟩⟩
theorem take_puts (l0 ps : List Pr) (k : Nat) (h : k < ps.length) : Dc.puts l0 (ps.take (k + 1)) = Dc.put (Dc.puts l0 (ps.take k)) ps[k].1 ps[k].2 := by
  rw [← List.take_append_getElem h, Dc.puts_snoc]
theorem keys_at (ps : List Pr) (k : Nat) (h : k < ps.length) : (Dc.keys ps)[k]'(by simpa [Dc.keys] using h) = ((ps[ps.length - 1 - k]'(by omega)).1, ⟨#[]⟩) := by
  simp [Dc.keys]
theorem keys_len (ps : List Pr) : (Dc.keys ps).length = ps.length := by simp [Dc.keys]
theorem take_keys (ps : List Pr) (k : Nat) (h : k < ps.length) : Dc.puts [] ((Dc.keys ps).take (k + 1)) = Dc.put (Dc.puts [] ((Dc.keys ps).take k)) (ps[ps.length - 1 - k]'(by omega)).1 ⟨#[]⟩ := by
  rw [take_puts [] (Dc.keys ps) k (by rw [keys_len]; exact h), keys_at ps k h]
set_option maxRecDepth 100000 in
set_option maxHeartbeats 8000000 in
theorem order_law (ps : List Pr) (mk mv : ByteArray) (A : Option Addr) (c : Nat) (w : World) (hA : Prs w A ps) (hn : ps.length ≤ 9223372036854775807) :
    Calls Try.prog 4 #[.slice A ps.length c, .agg #[.string mk, .string mv]] w (Gives (.bool true) w) := by
  have hmix : Try.prog.follows .mixedOrders = true := by kernel_rfl
  by_cases h80 : 80 < ps.length
  · have h80Z : (80 : Int) < (ps.length : Int) := by omega
    go_enter Try.func4, Try.ntmps4
    go_wp2_with fail
    with_reducible refine (awake_any _).mono ?_
    rintro e w1 ⟨rfl, hb⟩
    go_wp2
    go_ret
    exact ⟨rfl, ((Below.refl _ w).alloc (Nat.le_refl _) _).trans (hb.mono (by simp))⟩
  · have h80Z : ¬ ((80 : Int) < (ps.length : Int)) := by omega
    obtain ⟨w0, hw0⟩ : ∃ w0, w.alloc (.cells #[.string mk, .string mv] 40) = w0 := ⟨_, rfl⟩
    have hx0 : w0.heap[w.heap.size]? = some (.cells #[.string mk, .string mv] 40 (0, 0)) := by rw [← hw0]; exact heap_alloc_new w _
    have hz0 : w0.heap.size = w.heap.size + 1 := by rw [← hw0]; simp
    have hB0 : Below w.heap.size w w0 := by rw [← hw0]; exact (Below.refl _ w).alloc (Nat.le_refl _) _
    have m1 := (Mp.new w0).alloc (.cells #[.bool true, .slice none 0 0] 45)
    have m2 := Mp.new (w0.alloc (.cells #[.bool true, .slice none 0 0] 45))
    have hB2 : Below w.heap.size w ((w0.alloc (.cells #[.bool true, .slice none 0 0] 45)).alloc (.cells #[.bool true, .slice none 0 0] 45)) := (hB0.alloc hB0.size _).alloc (by have := hB0.size; simp; omega) _
    have hx2 : ((w0.alloc (.cells #[.bool true, .slice none 0 0] 45)).alloc (.cells #[.bool true, .slice none 0 0] 45)).heap[w.heap.size]? = some (.cells #[.string mk, .string mv] 40 (0, 0)) := by
      rw [Below.heap_alloc _ _ _ (by simp; omega), Below.heap_alloc _ _ _ (by omega)]; exact hx0
    simp only [World.size_alloc] at m2
    have HM1 : Hid (Mp w.heap.size ((w0.alloc (.cells #[.bool true, .slice none 0 0] 45)).alloc (.cells #[.bool true, .slice none 0 0] 45)) w0.heap.size (.slice none 0 0) []) := Lib.hid (m1.mono (by omega))
    have HM2 : Hid (Mp w.heap.size ((w0.alloc (.cells #[.bool true, .slice none 0 0] 45)).alloc (.cells #[.bool true, .slice none 0 0] 45)) (w0.heap.size + 1) (.slice none 0 0) []) := Lib.hid (m2.mono (by omega))
    have HB2 := Lib.hid hB2; clear hB2
    have HX2 := Lib.hid hx2; clear hx2
    have Hz0 := Lib.hid hz0; clear hz0
    clear m1 m2 hx0 hB0
    have HA := Lib.hid hA; clear hA
    go_enter Try.func4, Try.ntmps4
    go_wp2_with fail
    with_reducible refine (new_any _).mono ?_
    rintro e w' ⟨rfl, rfl⟩
    go_wp2_with fail
    with_reducible refine (new_any _).mono ?_
    rintro e w' ⟨rfl, rfl⟩
    generalize (w0.alloc (.cells #[.bool true, .slice none 0 0] 45)).alloc (.cells #[.bool true, .slice none 0 0] 45) = w2 at HM1 HM2 HB2 HX2 ⊢
    simp only [World.size_alloc]
    clear hw0
    have hpq : w0.heap.size ≠ w0.heap.size + 1 := by omega
    generalize hq : w0.heap.size + 1 = q at *
    generalize w0.heap.size = p at *
    clear hq Hz0
    have HP : Hid (∀ (pp : Nat) (v : Value) (l : List Pr) (key x : ByteArray) (w1 : World), l.length ≤ 1000 → Mp w.heap.size w1 pp v l → Calls Try.prog 9 #[.pointer (some ⟨pp, 0, none⟩), .string key, .string x] w1 (Turns w.heap.size pp v (Dc.gt l key) (Dc.put l key x) w1)) := Lib.hid fun pp v l key x w1 hl h => put_any _ pp v l key x w1 h (by omega)
    have HAll : Hid (∀ (w1 : World) (pp : Nat) (v1 : Value) (l' : List Pr), l'.length ≤ 80 → Mp w.heap.size w1 pp v1 l' → Calls Try.prog 16 #[.pointer (some ⟨pp, 0, none⟩), .int .i64 100] w1 (Tells l' w1)) := Lib.hid fun w1 pp v1 l' hl' h => by
      have := lall_any _ pp v1 l' 100 w1 h (by omega)
      rw [List.take_of_length_le (by omega)] at this; exact this
    go_wp2
    go_loopw [7] (fun i wr => ∃ (k : Nat) (v u : Value), k ≤ ps.length ∧ i = .int .i64 k ∧ Mp w.heap.size wr p v (Dc.puts [] (ps.take k)) ∧ Mp w.heap.size wr q u (Dc.puts [] ((Dc.keys ps).take k)) ∧ Apt v u ∧ wr.heap[w.heap.size]? = some (.cells #[.string mk, .string mv] 40 (0, 0)) ∧ Below w.heap.size w wr) (fun i _ => ps.length - (intOf i).toNat)
    case atStart => exact ⟨0, _, _, by omega, rfl, HM1.out, HM2.out, (fun j h => by cases h), HX2.out, HB2.out⟩
    case round =>
      clear HM1 HM2 HB2 HX2
      obtain ⟨k, v, u, hk, rfl, hm, hm', hap, hx, hB⟩ := hrel
      have M1 := Lib.hid hm; clear hm
      have M2 := Lib.hid hm'; clear hm'
      have X1 := Lib.hid hx; clear hx
      have B1 := Lib.hid hB; clear hB
      have A1 := Lib.hid hap; clear hap
      by_cases hlt : k < ps.length
      · have hltZ : (k : Int) < (ps.length : Int) := by omega
        obtain ⟨b, off, hAe, hcell⟩ := HA.out.at hlt
        subst hAe
        have HC := Lib.hid hcell; clear hcell
        obtain ⟨d1, d2⟩ := HC.out k hlt wr B1.out
        have l1 : (Dc.puts [] (ps.take k)).length ≤ 1000 := by have := puts_len (ps.take k); simp at this; omega
        have l2 : (Dc.puts [] ((Dc.keys ps).take k)).length ≤ 1000 := by have := puts_len ((Dc.keys ps).take k); simp [keys_len] at this; omega
        have E1 := Lib.hid (take_puts [] ps k hlt)
        obtain ⟨j0, hj0, hjl, E2⟩ : ∃ j0, ps.length - 1 - k = j0 ∧ ∃ h : j0 < ps.length, Hid (Dc.puts [] ((Dc.keys ps).take (k + 1)) = Dc.put (Dc.puts [] ((Dc.keys ps).take k)) (ps[j0]'h).1 ⟨#[]⟩) := ⟨ps.length - 1 - k, rfl, by omega, Lib.hid (take_keys ps k hlt)⟩
        have hjZ : (ps.length : Int) - 1 - (k : Int) = (j0 : Int) := by omega
        have hjw : IntKind.i64.wrap ((ps.length : Int) - 1 - (k : Int)) = (j0 : Int) := by rw [IntKind.wrap_i64]; omega
        have hjw1 : IntKind.i64.wrap ((ps.length : Int) - 1) = (ps.length : Int) - 1 := by rw [IntKind.wrap_i64]; omega
        have hjlZ : (j0 : Int) < (ps.length : Int) := by omega
        have HJ := Lib.hid hj0; clear hj0
        have HK : Hid (∀ w', Below w.heap.size w w' → w'.cell? ⟨b, off + k * 2, none⟩ = some (.string ps[k].1) ∧ w'.cell? ⟨b, off + k * 2 + 1, none⟩ = some (.string ps[k].2)) := Lib.hid fun w' hB => HC.out k hlt w' hB
        generalize ps[k].1 = key at *
        generalize ps[k].2 = val at *
        go_wp2
        go_region_held3 (fun w' => w'.cell? ⟨b, off + k * 2, none⟩ = some (.string key) ∧ w'.cell? ⟨b, off + k * 2 + 1, none⟩ = some (.string val))
          (first | exact HK.out _ B3.out | exact HK.out _ B1.out.drew | fail)
          (first | (go_at_call 9; refine (HP.out p v _ key val _ l1 (M1.out.drewN 1)).mono ?_; rintro e w3 ⟨rfl, v3, hm3, hs3⟩; have B3 : Hid (Below w.heap.size w w3) := Lib.hid (B1.out.drew.trans (hs3.below (M1.out.drewN 1)))) | fail)
        have M1d := Lib.hid (M1.out.drewN 1)
        have M2d := Lib.hid (M2.out.drewN 1)
        have hm4 := hs3.other M1d.out M2d.out hpq (fun j hu hv => A1.out j hu hv)
        have ap4 : Apt v3 u := Apt.left A1.out hs3 M2d.out
        have hx4 := hs3.far M1d.out X1.out (by decide) (by decide)
        obtain ⟨e1, -⟩ := HC.out j0 hjl w3 B3.out
        have M3 := Lib.hid hm3; clear hm3
        have M4 := Lib.hid hm4; clear hm4
        have X4 := Lib.hid hx4; clear hx4
        have A4 := Lib.hid ap4; clear ap4
        clear hs3 M1d M2d M1 M2 X1 A1 d1 d2 HK
        generalize ps[j0].1 = key2 at *
        go_wp2_with fail
        with_reducible refine (HP.out q u _ key2 ⟨#[]⟩ _ l2 M4.out).mono ?_
        rintro e w5 ⟨rfl, u5, hm5, hs5⟩
        have hm6 := hs5.other M4.out M3.out (fun e => hpq e.symm) (fun j hv hu => A4.out j hu hv)
        have ap6 : Apt v3 u5 := (Apt.left A4.out.symm hs5 M3.out).symm
        have hx6 := hs5.far M4.out X4.out (by decide) (by decide)
        have B6 := Lib.hid (B3.out.trans (hs5.below M4.out))
        have M5 := Lib.hid hm5; clear hm5
        have M6 := Lib.hid hm6; clear hm6
        have X6 := Lib.hid hx6; clear hx6
        have A6 := Lib.hid ap6; clear ap6 hs5
        go_wp2
        go_roundw
        case rel => exact ⟨k + 1, v3, u5, by omega, by go_num, by rw [E1.out]; exact M6.out, by rw [E2.out]; exact M5.out, A6.out, X6.out, B6.out⟩
        case measure => simp [intOf]; omega
      · obtain rfl : k = ps.length := by omega
        have M1' : Hid (Mp w.heap.size wr p v (Dc.puts [] ps)) := Lib.hid (by have := M1.out; rw [List.take_length] at this; exact this)
        have M2' : Hid (Mp w.heap.size wr q u (Dc.puts [] (Dc.keys ps))) := Lib.hid (by have := M2.out; rw [List.take_of_length_le (Nat.le_of_eq (keys_len ps))] at this; exact this)
        clear M1 M2
        have hml := puts_len ps
        have hsl : Dc.Srt (Dc.puts [] (Dc.keys ps)) := Dc.srt_puts _ _ Dc.srt_nil
        have hkl := puts_len (Dc.keys ps)
        rw [keys_len] at hkl
        obtain ⟨ML, HML⟩ : ∃ ML, Hid (Dc.puts [] ps = ML) := ⟨_, Lib.hid rfl⟩
        obtain ⟨NL, HNL⟩ : ∃ NL, Hid (Dc.puts [] (Dc.keys ps) = NL) := ⟨_, Lib.hid rfl⟩
        rw [HML.out] at M1' hml
        rw [HNL.out] at M2' hsl hkl
        have HSL := Lib.hid hsl; clear hsl
        go_wp2
        go_loopw [8] (fun i wq => ∃ (k : Nat) (u : Value), k ≤ ps.length ∧ i = .int .i64 k ∧ Mp w.heap.size wq p v ML ∧ Mp w.heap.size wq q u (Dc.puts NL (ps.take k)) ∧ Apt v u ∧ wq.heap[w.heap.size]? = some (.cells #[.string mk, .string mv] 40 (0, 0)) ∧ Below w.heap.size w wq) (fun i _ => ps.length - (intOf i).toNat)
        case atStart => exact ⟨0, u, by omega, rfl, M1'.out, M2'.out, A1.out, X1.out, B1.out⟩
        case round =>
          clear M1' M2' A1 X1 B1
          obtain ⟨k, u, hk, rfl, hm, hm', hap, hx, hB⟩ := hrel
          have M1 := Lib.hid hm; clear hm
          have M2 := Lib.hid hm'; clear hm'
          have X1 := Lib.hid hx; clear hx
          have B1 := Lib.hid hB; clear hB
          have A1 := Lib.hid hap; clear hap
          by_cases hlt : k < ps.length
          · have hltZ : (k : Int) < (ps.length : Int) := by omega
            obtain ⟨b, off, hAe, hcell⟩ := HA.out.at hlt
            subst hAe
            have HC := Lib.hid hcell; clear hcell
            obtain ⟨d1, d2⟩ := HC.out k hlt wr B1.out
            have l2 : (Dc.puts NL (ps.take k)).length ≤ 1000 := by have := Dc.len_puts (ps.take k) NL HSL.out; simp at this; omega
            have E1 := Lib.hid (take_puts NL ps k hlt)
            have HK : Hid (∀ w', Below w.heap.size w w' → w'.cell? ⟨b, off + k * 2, none⟩ = some (.string ps[k].1) ∧ w'.cell? ⟨b, off + k * 2 + 1, none⟩ = some (.string ps[k].2)) := Lib.hid fun w' hB => HC.out k hlt w' hB
            generalize ps[k].1 = key at *
            generalize ps[k].2 = val at *
            go_wp2
            go_region_held3 (fun w' => w'.cell? ⟨b, off + k * 2, none⟩ = some (.string key) ∧ w'.cell? ⟨b, off + k * 2 + 1, none⟩ = some (.string val))
              (first | exact HK.out _ B3.out | exact HK.out _ B1.out.drew | fail)
              (first | (go_at_call 9; refine (HP.out q u _ key val _ l2 (M2.out.drewN 1)).mono ?_; rintro e w3 ⟨rfl, u3, hm3, hs3⟩; have B3 : Hid (Below w.heap.size w w3) := Lib.hid (B1.out.drew.trans (hs3.below (M2.out.drewN 1)))) | fail)
            have M1d := Lib.hid (M1.out.drewN 1)
            have M2d := Lib.hid (M2.out.drewN 1)
            have hm4 := hs3.other M2d.out M1d.out (fun e => hpq e.symm) (fun j hv hu => A1.out j hu hv)
            have ap4 : Apt v u3 := (Apt.left A1.out.symm hs3 M1d.out).symm
            have hx4 := hs3.far M2d.out X1.out (by decide) (by decide)
            have M3 := Lib.hid hm3; clear hm3
            have M4 := Lib.hid hm4; clear hm4
            have X4 := Lib.hid hx4; clear hx4
            have A4 := Lib.hid ap4; clear ap4
            clear hs3 M1d M2d M1 M2 X1 A1 d1 d2 HK
            go_wp2
            go_roundw
            case rel => exact ⟨k + 1, u3, by omega, by go_num, M4.out, by rw [E1.out]; exact M3.out, A4.out, X4.out, B3.out⟩
            case measure => simp [intOf]; omega
          · obtain rfl : k = ps.length := by omega
            have eN : Dc.puts NL (ps.take ps.length) = ML := by rw [List.take_length, ← HNL.out, ← HML.out]; exact Dc.order ps
            have M2' : Hid (Mp w.heap.size wr q u ML) := Lib.hid (by have := M2.out; rw [eN] at this; exact this)
            clear M2 eN HNL HSL hkl
            have Hml := Lib.hid hml; clear hml
            have hml := Hml.out
            have hasK : Hid (∀ i (h : i < ps.length), ∃ x, Dc.gt ML ps[i].1 = some x) := Lib.hid fun i h => by rw [← HML.out]; exact Dc.has ps ps[i] (List.getElem_mem h)
            go_wp2_with fail
            with_reducible refine (HAll.out _ p v ML (by omega) M1.out).mono ?_
            rintro e w5 ⟨vw, rfl, hrw, hb5⟩
            obtain ⟨wa, wc, rfl⟩ := hrw.lens
            have B5 := Lib.hid (B1.out.trans (hb5.mono B1.out.size))
            have R5 := Lib.hid (hrw.mono B1.out.size)
            have M5 := Lib.hid (M1.out.below hb5)
            have N5 := Lib.hid (M2'.out.below hb5)
            have X5 := Lib.hid ((hb5.block _ (Array.getElem?_eq_some_iff.1 X1.out).1).trans X1.out)
            clear M1 M2' X1 B1 A1 hrw hb5
            go_wp2_with fail
            with_reducible refine (rright_any _ _ _ _ R5.out (by omega) M5.out.srt).mono ?_
            rintro e w6 ⟨rfl, hb6⟩
            have B6 := Lib.hid (B5.out.trans (hb6.mono B5.out.size))
            have R6 := Lib.hid (R5.out.below hb6)
            have M6 := Lib.hid (M5.out.below hb6)
            have N6 := Lib.hid (N5.out.below hb6)
            have X6 := Lib.hid ((hb6.block _ (Array.getElem?_eq_some_iff.1 X5.out).1).trans X5.out)
            clear B5 R5 M5 N5 X5 hb6
            go_wp2_with fail
            with_reducible refine (HAll.out _ q u ML (by omega) N6.out).mono ?_
            rintro e w7 ⟨vn, rfl, hrn, hb7⟩
            have B7 := Lib.hid (B6.out.trans (hb7.mono B6.out.size))
            have R7 := Lib.hid (R6.out.below hb7)
            have M7 := Lib.hid (M6.out.below hb7)
            have X7 := Lib.hid ((hb7.block _ (Array.getElem?_eq_some_iff.1 X6.out).1).trans X6.out)
            have RN := Lib.hid hrn
            clear B6 R6 M6 N6 X6 hb7 hrn
            go_wp2_with fail
            with_reducible refine (rsame_any _ _ _ _ _ _ R7.out RN.out (by omega)).mono ?_
            rintro e w8 ⟨rfl, hb8⟩
            have B8 := Lib.hid (B7.out.trans (hb8.mono B7.out.size))
            have R8 := Lib.hid (R7.out.below hb8)
            have M8 := Lib.hid (M7.out.below hb8)
            have X8 := Lib.hid ((hb8.block _ (Array.getElem?_eq_some_iff.1 X7.out).1).trans X7.out)
            clear B7 R7 M7 X7 RN hb8
            have q3 : ((ML.length : Int) != (ML.length : Int)) = false := by simp
            go_wp2_with fail
            with_reducible refine (len_any _ _ _ _ _ M8.out).mono ?_
            rintro e w9 ⟨rfl, rfl⟩
            go_wp2
            go_loopw [10] (fun i wq => ∃ (k : Nat), k ≤ ps.length ∧ i = .int .i64 k ∧ Mp w.heap.size wq p v ML ∧ Row w.heap.size 40 wq (.slice wa ML.length wc) ML ∧ wq.heap[w.heap.size]? = some (.cells #[.string mk, .string mv] 40 (0, 0)) ∧ Below w.heap.size w wq) (fun i _ => ps.length - (intOf i).toNat)
            case atStart => exact ⟨0, by omega, rfl, M8.out, R8.out, X8.out, B8.out⟩
            case round =>
              clear M8 R8 X8 B8
              obtain ⟨k, hk, rfl, hm, hr, hx, hB⟩ := hrel
              have M1 := Lib.hid hm; clear hm
              have R1 := Lib.hid hr; clear hr
              have X1 := Lib.hid hx; clear hx
              have B1 := Lib.hid hB; clear hB
              by_cases hlt : k < ps.length
              · have hltZ : (k : Int) < (ps.length : Int) := by omega
                obtain ⟨b, off, hAe, hcell⟩ := HA.out.at hlt
                subst hAe
                have HC := Lib.hid hcell; clear hcell
                obtain ⟨d1, d2⟩ := HC.out k hlt wr B1.out
                obtain ⟨x, hx⟩ := hasK.out k hlt
                have HK : Hid (∀ w', Below w.heap.size w w' → w'.cell? ⟨b, off + k * 2, none⟩ = some (.string ps[k].1)) := Lib.hid fun w' hB => (HC.out k hlt w' hB).1
                generalize ps[k].1 = key at *
                have G3 : Hid (Calls Try.prog 13 #[.pointer (some ⟨p, 0, none⟩), .string key] wr (Gives (.tuple #[.string x, .bool true]) wr)) := Lib.hid (by have := get_any _ _ v ML key wr M1.out (by omega); rw [hx] at this; exact this)
                have G0 : Hid (∀ w1, Row w.heap.size 40 w1 (.slice wa ML.length wc) ML → Calls Try.prog 8 #[.slice wa ML.length wc, .string key] w1 (Same (.tuple #[.string x, .bool true]) w1)) := Lib.hid fun w1 h => by have := rget_any _ _ ML key w1 h (by omega); rw [hx] at this; exact this
                clear hx
                have q1 : (x.toList == x.toList) = true := by simp
                go_wp2_with fail
                with_reducible refine G3.out.mono ?_
                rintro e w2 ⟨rfl, hb2⟩
                have B2 := Lib.hid (B1.out.trans (hb2.mono B1.out.size))
                have R2 := Lib.hid (R1.out.below hb2)
                have M2 := Lib.hid (M1.out.below hb2)
                have X2 := Lib.hid ((hb2.block _ (Array.getElem?_eq_some_iff.1 X1.out).1).trans X1.out)
                have d3 := HK.out w2 B2.out
                clear hb2 d1 d2
                go_wp2_with fail
                with_reducible refine (G0.out _ R2.out).mono ?_
                rintro e w3 ⟨rfl, rfl⟩
                go_wp2
                go_roundw
                case rel => exact ⟨k + 1, by omega, by go_num, M2.out, R2.out, X2.out, B2.out⟩
                case measure => simp [intOf]; omega
              · obtain rfl : k = ps.length := by omega
                have x1 : wr.cell? ⟨w.heap.size, 0, none⟩ = some (.string mk) := by simp [World.cell?, X1.out]
                have x2 : wr.cell? ⟨w.heap.size, 1, none⟩ = some (.string mv) := by simp [World.cell?, X1.out]
                have HOne : Hid (∀ (w1 : World) (pp : Nat) (v1 : Value), Mp w.heap.size w1 pp v1 ML → Calls Try.prog 16 #[.pointer (some ⟨pp, 0, none⟩), .int .i64 1] w1 (Tells (ML.take 1) w1)) := Lib.hid fun w1 pp v1 h => lall_any _ pp v1 ML 1 w1 h (by omega)
                go_wp2_with fail
                with_reducible refine (copy_any _ _ _ _ _ M1.out (by omega)).mono ?_
                rintro e w2 ⟨qc, vc, rfl, hmc, hbc⟩
                have hqc : qc ≠ p := by have := hmc.from_; have := M1.out.lt; omega
                have hapc : ∀ j, v.ownBlock = some j → vc.ownBlock ≠ some j := fun j h1 h2 => by have := (M1.out.row.lt j h1).2; have := (hmc.row.lt j h2).1; omega
                have y1 := (hbc.cell (p := ⟨w.heap.size, 0, none⟩) (World.block_lt_of_cell? _ _ x1)).trans x1
                have y2 := (hbc.cell (p := ⟨w.heap.size, 1, none⟩) (World.block_lt_of_cell? _ _ x2)).trans x2
                have M2 := Lib.hid (M1.out.below hbc)
                have R2 := Lib.hid (R1.out.below hbc)
                have B2 := Lib.hid (B1.out.trans (hbc.mono B1.out.size))
                have MC := Lib.hid (hmc.mono B1.out.size)
                clear x1 x2 M1 R1 X1 B1 hmc hbc
                go_wp2_with fail
                with_reducible refine (HP.out qc vc ML mk mv _ (by omega) MC.out).mono ?_
                rintro e w3 ⟨rfl, vc3, hmc3, hs3⟩
                have hm3 := hs3.other MC.out M2.out hqc hapc
                have hapc3 : ∀ j, v.ownBlock = some j → vc3.ownBlock ≠ some j := Apt.left (v := vc) (v2 := vc3) (u := v) hapc hs3 M2.out
                have M3 := Lib.hid hm3
                have R3 := Lib.hid (hs3.list MC.out R2.out (by decide) (by decide))
                have B3 := Lib.hid (B2.out.trans (hs3.below MC.out))
                have hl3 : (Dc.put ML mk mv).length ≤ 1000 := by have := Dc.len_put ML mk mv M3.out.srt; omega
                have MC3 := Lib.hid hmc3
                clear hm3 hmc3 hs3 M2 R2 B2 MC y1 y2 hapc
                generalize Dc.put ML mk mv = lc at *
                have hmin : IntKind.i64.wrap 1 = 1 := rfl
                by_cases h0 : 0 < ps.length
                · have h0Z : (0 : Int) < (ps.length : Int) := by omega
                  obtain ⟨b, off, hAe, hcell⟩ := HA.out.at h0
                  subst hAe
                  have d0 := (hcell 0 h0 w3 B3.out).1
                  simp only [Nat.zero_mul, Nat.add_zero] at d0
                  clear hcell
                  generalize ps[0].1 = key at *
                  go_wp2_with fail
                  with_reducible refine (del_any _ qc vc3 lc key _ MC3.out (by omega)).mono ?_
                  rintro e w4 ⟨rfl, vc4, hmc4, hs4⟩
                  have M4 := Lib.hid (hs4.other MC3.out M3.out hqc hapc3)
                  have R4 := Lib.hid (hs4.list MC3.out R3.out (by decide) (by decide))
                  have B4 := Lib.hid (B3.out.trans (hs4.below MC3.out))
                  clear hmc4 hs4 MC3 M3 R3 B3 d0 hapc3
                  rcases Nat.eq_zero_or_pos ML.length with hz | hz
                  · obtain rfl : ML = [] := List.eq_nil_of_length_eq_zero hz
                    have hpl : (List.take 1 ([] : List Pr)).length = 0 := rfl
                    have hml0 : ([] : List Pr).length = 0 := rfl
                    clear hz
                    go_wp2_with fail
                    with_reducible refine (HOne.out _ _ _ M4.out).mono ?_
                    rintro e w5 ⟨v5, rfl, hr5, hb5⟩
                    obtain ⟨a5, c5, rfl⟩ := hr5.lens
                    rw [hpl]
                    have R5 := Lib.hid (R4.out.below hb5)
                    have M5 := Lib.hid (M4.out.below hb5)
                    have B5 := Lib.hid (B4.out.trans (hb5.mono B4.out.size))
                    clear hr5 hb5 hpl
                    go_wp2_with fail
                    with_reducible refine (HAll.out _ p v _ (by omega) M5.out).mono ?_
                    rintro e w6 ⟨v6, rfl, hr6, hb6⟩
                    have R6 := Lib.hid (R5.out.below hb6)
                    have B6 := Lib.hid (B5.out.trans (hb6.mono B5.out.size))
                    have R6' := Lib.hid hr6
                    clear hr6 hb6
                    go_wp2_with fail
                    have hS := rsame_any _ _ _ _ _ _ R6'.out R6.out (by omega)
                    simp only [List.length_nil] at hS
                    with_reducible refine hS.mono ?_
                    rintro e w7 ⟨rfl, hb7⟩
                    have B7 := Lib.hid (B6.out.trans (hb7.mono B6.out.size))
                    clear hb7
                    go_wp2_with fail
                    with_reducible refine (awake_any _).mono ?_
                    rintro e w8 ⟨rfl, hb8⟩
                    go_wp2
                    go_ret
                    exact ⟨rfl, B7.out.trans (hb8.mono B7.out.size)⟩
                  · have hone : (1 : Int) ≤ (ML.length : Int) := by omega
                    have hpl : (List.take 1 ML).length = 1 := by simp; omega
                    go_wp2_with fail
                    with_reducible refine (HOne.out _ _ _ M4.out).mono ?_
                    rintro e w5 ⟨v5, rfl, hr5, hb5⟩
                    obtain ⟨a5, c5, rfl⟩ := hr5.lens
                    rw [hpl]
                    have R5 := Lib.hid (R4.out.below hb5)
                    have M5 := Lib.hid (M4.out.below hb5)
                    have B5 := Lib.hid (B4.out.trans (hb5.mono B4.out.size))
                    clear hr5 hb5 hpl
                    go_wp2_with fail
                    with_reducible refine (HAll.out _ p v _ (by omega) M5.out).mono ?_
                    rintro e w6 ⟨v6, rfl, hr6, hb6⟩
                    have R6 := Lib.hid (R5.out.below hb6)
                    have B6 := Lib.hid (B5.out.trans (hb6.mono B5.out.size))
                    have R6' := Lib.hid hr6
                    clear hr6 hb6
                    go_wp2_with fail
                    with_reducible refine (rsame_any _ _ _ _ _ _ R6'.out R6.out (by omega)).mono ?_
                    rintro e w7 ⟨rfl, hb7⟩
                    have B7 := Lib.hid (B6.out.trans (hb7.mono B6.out.size))
                    clear hb7
                    go_wp2_with fail
                    with_reducible refine (awake_any _).mono ?_
                    rintro e w8 ⟨rfl, hb8⟩
                    go_wp2
                    go_ret
                    exact ⟨rfl, B7.out.trans (hb8.mono B7.out.size)⟩
                · have h0Z : ¬ ((0 : Int) < (ps.length : Int)) := by omega
                  rcases Nat.eq_zero_or_pos ML.length with hz | hz
                  · obtain rfl : ML = [] := List.eq_nil_of_length_eq_zero hz
                    have hpl : (List.take 1 ([] : List Pr)).length = 0 := rfl
                    have hml0 : ([] : List Pr).length = 0 := rfl
                    clear hz
                    go_wp2_with fail
                    with_reducible refine (HOne.out _ _ _ M3.out).mono ?_
                    rintro e w5 ⟨v5, rfl, hr5, hb5⟩
                    obtain ⟨a5, c5, rfl⟩ := hr5.lens
                    rw [hpl]
                    have R5 := Lib.hid (R3.out.below hb5)
                    have M5 := Lib.hid (M3.out.below hb5)
                    have B5 := Lib.hid (B3.out.trans (hb5.mono B3.out.size))
                    clear hr5 hb5 hpl
                    go_wp2_with fail
                    with_reducible refine (HAll.out _ p v _ (by omega) M5.out).mono ?_
                    rintro e w6 ⟨v6, rfl, hr6, hb6⟩
                    have R6 := Lib.hid (R5.out.below hb6)
                    have B6 := Lib.hid (B5.out.trans (hb6.mono B5.out.size))
                    have R6' := Lib.hid hr6
                    clear hr6 hb6
                    go_wp2_with fail
                    have hS := rsame_any _ _ _ _ _ _ R6'.out R6.out (by omega)
                    simp only [List.length_nil] at hS
                    with_reducible refine hS.mono ?_
                    rintro e w7 ⟨rfl, hb7⟩
                    have B7 := Lib.hid (B6.out.trans (hb7.mono B6.out.size))
                    clear hb7
                    go_wp2_with fail
                    with_reducible refine (awake_any _).mono ?_
                    rintro e w8 ⟨rfl, hb8⟩
                    go_wp2
                    go_ret
                    exact ⟨rfl, B7.out.trans (hb8.mono B7.out.size)⟩
                  · have hone : (1 : Int) ≤ (ML.length : Int) := by omega
                    have hpl : (List.take 1 ML).length = 1 := by simp; omega
                    go_wp2_with fail
                    with_reducible refine (HOne.out _ _ _ M3.out).mono ?_
                    rintro e w5 ⟨v5, rfl, hr5, hb5⟩
                    obtain ⟨a5, c5, rfl⟩ := hr5.lens
                    rw [hpl]
                    have R5 := Lib.hid (R3.out.below hb5)
                    have M5 := Lib.hid (M3.out.below hb5)
                    have B5 := Lib.hid (B3.out.trans (hb5.mono B3.out.size))
                    clear hr5 hb5 hpl
                    go_wp2_with fail
                    with_reducible refine (HAll.out _ p v _ (by omega) M5.out).mono ?_
                    rintro e w6 ⟨v6, rfl, hr6, hb6⟩
                    have R6 := Lib.hid (R5.out.below hb6)
                    have B6 := Lib.hid (B5.out.trans (hb6.mono B5.out.size))
                    have R6' := Lib.hid hr6
                    clear hr6 hb6
                    go_wp2_with fail
                    with_reducible refine (rsame_any _ _ _ _ _ _ R6'.out R6.out (by omega)).mono ?_
                    rintro e w7 ⟨rfl, hb7⟩
                    have B7 := Lib.hid (B6.out.trans (hb7.mono B6.out.size))
                    clear hb7
                    go_wp2_with fail
                    with_reducible refine (awake_any _).mono ?_
                    rintro e w8 ⟨rfl, hb8⟩
                    go_wp2
                    go_ret
                    exact ⟨rfl, B7.out.trans (hb8.mono B7.out.size)⟩
end Go.Proofs.Ytclkpfjihdcnfaa
