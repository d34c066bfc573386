/-
  The walk of wordOf. By an AI agent.
-/
import Derived.Test.YtmpoaepkfjeecaaPackParts
import Derived.Laws.CopyOwn
import Derived.Deep.RegionLaw
namespace Go.Proofs.Ytmpoaepkfjeecaa
open Go.RowKit
/-- The bytes that are copied. -/
def part (bs : List UInt8) (i : Nat) : List Value := (List.range (min 8 (bs.length - i))).map fun j => Value.int .u8 (Pk.bv bs (i + j))
theorem part_len (bs : List UInt8) (i : Nat) : (part bs i).length = min 8 (bs.length - i) := by simp [part]
/-- The eight bytes from i on. -/
def oct (bs : List UInt8) (i : Nat) : List Value := [.int .u8 (Pk.bv bs i), .int .u8 (Pk.bv bs (i + 1)), .int .u8 (Pk.bv bs (i + 2)), .int .u8 (Pk.bv bs (i + 3)), .int .u8 (Pk.bv bs (i + 4)), .int .u8 (Pk.bv bs (i + 5)), .int .u8 (Pk.bv bs (i + 6)), .int .u8 (Pk.bv bs (i + 7))]
theorem splice_oct (bs : List UInt8) (i : Nat) : splice [.int .u8 0, .int .u8 0, .int .u8 0, .int .u8 0, .int .u8 0, .int .u8 0, .int .u8 0, .int .u8 0] 0 (part bs i) = oct bs i := by
  have key : ∀ m, m = min 8 (bs.length - i) → m ≤ 8 := by intro m h; omega
  have hz : ∀ j, min 8 (bs.length - i) ≤ j → j < 8 → Pk.bv bs (i + j) = 0 := fun j h1 h2 => Pk.bv_out (by omega)
  unfold part splice oct
  generalize hm : min 8 (bs.length - i) = m at hz
  have h8 : m = 8 ∨ m < 8 := by have := key m hm.symm; omega
  rcases h8 with rfl | h8
  · simp [List.range, List.range.loop]
  · have hz0 : m = 0 → Pk.bv bs i = 0 := fun e => by have := hz 0 (by omega) (by omega); simpa using this
    rcases Ln.eightN h8 with rfl | rfl | rfl | rfl | rfl | rfl | rfl | rfl <;> simp [List.range, List.range.loop, hz, hz0]
abbrev zero8 : List Value := [.int .u8 0, .int .u8 0, .int .u8 0, .int .u8 0, .int .u8 0, .int .u8 0, .int .u8 0, .int .u8 0]
theorem size_u8 : (Try.prog.info? 5).map (·.size) = some 1 := by kernel_rfl
theorem part_one (bs : List UInt8) (i : Nat) : ∀ v ∈ part bs i, v.oneCell' = true := by
  intro v hv
  simp only [part, List.mem_map] at hv
  obtain ⟨j, -, rfl⟩ := hv
  simp [Value.oneCell']
theorem part_cells {bs : List UInt8} {i b : Nat} {w : World} (hc : ∀ j, j < bs.length → w.cell? ⟨b, j, none⟩ = some (.int .u8 (Pk.bv bs j))) :
    ∀ j v, (part bs i)[j]? = some v → w.cell? ((⟨b, i, none⟩ : Addr).add j) = some v := by
  intro j v hj
  have hadd : (⟨b, i, none⟩ : Addr).add j = ⟨b, i + j, none⟩ := by unfold Addr.add; split <;> simp_all
  have hjl : j < (part bs i).length := (List.getElem?_eq_some_iff.1 hj).1
  have hjl' := hjl
  rw [part_len] at hjl'
  rw [List.getElem?_eq_getElem hjl] at hj
  simp [part] at hj
  rw [hadd, hc _ (by omega), ← hj]
theorem oct_cell {bs : List UInt8} {i g : Nat} {t : TypeId} {w : World} (h : w.heap[g]? = some (.cells (oct bs i).toArray t (0, 0))) (k : Nat) (hk : k < 8) : w.cell? ⟨g, k, none⟩ = some (.int .u8 (Pk.bv bs (i + k))) := by
  have : (oct bs i)[k]? = some (.int .u8 (Pk.bv bs (i + k))) := by
    rcases Ln.eightN hk with rfl | rfl | rfl | rfl | rfl | rfl | rfl | rfl <;> rfl
  simp [World.cell?, h, this]
theorem copied {bs : List UInt8} {i b e g : Nat} {w w1 : World} {ops : Array Oper} {o : Oper} {a : Act} {K : Act → World → Prop} {Q : Exit → Act → World → Prop} {E : Prop} (hgd : o.guard = none) (d s : Operand)
    (ho : o.op = .call { callee := .builtin .copy, args := #[d, s], argTypes := #[88, 88] })
    (hd : a.eval d = .slice (some ⟨g, 0, none⟩) 8 8) (hs : a.eval s = .slice (some ⟨b, i, none⟩) (e - i) (e - i))
    (hg : w1.heap[g]? = some (.cells zero8.toArray 97 (0, 0))) (hp : Nat.min (e - i) 8 = (part bs i).length)
    (hc : ∀ j, j < bs.length → w1.cell? ⟨b, j, none⟩ = some (.int .u8 (Pk.bv bs j))) (hB : Below w.heap.size w w1) (hBg : w.heap.size ≤ g)
    (h : ∀ w', Hid (w'.heap[g]? = some (.cells (oct bs i).toArray 97 (0, 0))) → Below w.heap.size w w' → K (a.put o.dst (goInt (part bs i).length)) w') :
    if Region.wanted o (yielded ops a.tmps) = true then Oper.wp Try.prog o a w1 K Q else E := by
  refine step_copy_splice hgd d s 88 88 ho 5 Try.underlying88 size_u8 _ _ _ _ _ _ hd hs g 0 zero8 97 hg (part bs i) hp.symm (fun _ => ⟨rfl, ⟨b, i, none⟩, rfl, part_cells hc⟩) (by rw [part_len]; show 0 + min 8 _ ≤ 8; omega) (part_one bs i) w.heap.size w hB hBg ?_
  intro w' h1 h2
  rw [splice_oct] at h1
  exact h w' h1 h2
theorem idx0 (y0 y1 y2 y3 y4 y5 y6 y7 : Int) : ∀ w : World, (Instr.index 97 (.agg #[.int .u8 y0, .int .u8 y1, .int .u8 y2, .int .u8 y3, .int .u8 y4, .int .u8 y5, .int .u8 y6, .int .u8 y7]) (.int .i64 0)).run Try.prog w = .ok (.int .u8 y0) w := fun _ => by kernel_rfl
theorem idx1 (y0 y1 y2 y3 y4 y5 y6 y7 : Int) : ∀ w : World, (Instr.index 97 (.agg #[.int .u8 y0, .int .u8 y1, .int .u8 y2, .int .u8 y3, .int .u8 y4, .int .u8 y5, .int .u8 y6, .int .u8 y7]) (.int .i64 1)).run Try.prog w = .ok (.int .u8 y1) w := fun _ => by kernel_rfl
theorem idx2 (y0 y1 y2 y3 y4 y5 y6 y7 : Int) : ∀ w : World, (Instr.index 97 (.agg #[.int .u8 y0, .int .u8 y1, .int .u8 y2, .int .u8 y3, .int .u8 y4, .int .u8 y5, .int .u8 y6, .int .u8 y7]) (.int .i64 2)).run Try.prog w = .ok (.int .u8 y2) w := fun _ => by kernel_rfl
theorem idx3 (y0 y1 y2 y3 y4 y5 y6 y7 : Int) : ∀ w : World, (Instr.index 97 (.agg #[.int .u8 y0, .int .u8 y1, .int .u8 y2, .int .u8 y3, .int .u8 y4, .int .u8 y5, .int .u8 y6, .int .u8 y7]) (.int .i64 3)).run Try.prog w = .ok (.int .u8 y3) w := fun _ => by kernel_rfl
theorem idx4 (y0 y1 y2 y3 y4 y5 y6 y7 : Int) : ∀ w : World, (Instr.index 97 (.agg #[.int .u8 y0, .int .u8 y1, .int .u8 y2, .int .u8 y3, .int .u8 y4, .int .u8 y5, .int .u8 y6, .int .u8 y7]) (.int .i64 4)).run Try.prog w = .ok (.int .u8 y4) w := fun _ => by kernel_rfl
theorem idx5 (y0 y1 y2 y3 y4 y5 y6 y7 : Int) : ∀ w : World, (Instr.index 97 (.agg #[.int .u8 y0, .int .u8 y1, .int .u8 y2, .int .u8 y3, .int .u8 y4, .int .u8 y5, .int .u8 y6, .int .u8 y7]) (.int .i64 5)).run Try.prog w = .ok (.int .u8 y5) w := fun _ => by kernel_rfl
theorem idx6 (y0 y1 y2 y3 y4 y5 y6 y7 : Int) : ∀ w : World, (Instr.index 97 (.agg #[.int .u8 y0, .int .u8 y1, .int .u8 y2, .int .u8 y3, .int .u8 y4, .int .u8 y5, .int .u8 y6, .int .u8 y7]) (.int .i64 6)).run Try.prog w = .ok (.int .u8 y6) w := fun _ => by kernel_rfl
theorem idx7 (y0 y1 y2 y3 y4 y5 y6 y7 : Int) : ∀ w : World, (Instr.index 97 (.agg #[.int .u8 y0, .int .u8 y1, .int .u8 y2, .int .u8 y3, .int .u8 y4, .int .u8 y5, .int .u8 y6, .int .u8 y7]) (.int .i64 7)).run Try.prog w = .ok (.int .u8 y7) w := fun _ => by kernel_rfl
set_option maxRecDepth 100000 in
set_option maxHeartbeats 4000000 in
theorem wordOf_any (bs : List UInt8) (i b c : Nat) (w : World) (hlen : bs.length ≤ 1099511627776) (hlc : bs.length ≤ c) (hi : i < bs.length) (hb : b < w.heap.size)
    (hc : ∀ j, j < bs.length → w.cell? ⟨b, j, none⟩ = some (.int .u8 (Pk.bv bs j))) :
    Calls Try.prog 45 #[.slice (some ⟨b, 0, none⟩) bs.length c, .int .i64 i] w (Gives (.int .u64 (Pk.wto bs i 8)) w) := by
  have Hc := Lib.hid hc; clear hc
  have W0 : ∀ w, Calls Try.prog 49 #[.int .u64 0, .int .i64 0, .int .i64 (Pk.bv bs i)] w (Same (.int .u64 (Pk.wto bs i 1)) w) := fun w => with_any (Pk.wto bs i 0) 0 (Pk.bv bs (i + 0)) w (Pk.wto_bd bs i 0).1 (Pk.wto_bd bs i 0).2
  have W1 : ∀ w, Calls Try.prog 49 #[.int .u64 (Pk.wto bs i 1), .int .i64 1, .int .i64 (Pk.bv bs (i + 1))] w (Same (.int .u64 (Pk.wto bs i 2)) w) := fun w => with_any (Pk.wto bs i 1) 1 (Pk.bv bs (i + 1)) w (Pk.wto_bd bs i 1).1 (Pk.wto_bd bs i 1).2
  have W2 : ∀ w, Calls Try.prog 49 #[.int .u64 (Pk.wto bs i 2), .int .i64 2, .int .i64 (Pk.bv bs (i + 2))] w (Same (.int .u64 (Pk.wto bs i 3)) w) := fun w => with_any (Pk.wto bs i 2) 2 (Pk.bv bs (i + 2)) w (Pk.wto_bd bs i 2).1 (Pk.wto_bd bs i 2).2
  have W3 : ∀ w, Calls Try.prog 49 #[.int .u64 (Pk.wto bs i 3), .int .i64 3, .int .i64 (Pk.bv bs (i + 3))] w (Same (.int .u64 (Pk.wto bs i 4)) w) := fun w => with_any (Pk.wto bs i 3) 3 (Pk.bv bs (i + 3)) w (Pk.wto_bd bs i 3).1 (Pk.wto_bd bs i 3).2
  have W4 : ∀ w, Calls Try.prog 49 #[.int .u64 (Pk.wto bs i 4), .int .i64 4, .int .i64 (Pk.bv bs (i + 4))] w (Same (.int .u64 (Pk.wto bs i 5)) w) := fun w => with_any (Pk.wto bs i 4) 4 (Pk.bv bs (i + 4)) w (Pk.wto_bd bs i 4).1 (Pk.wto_bd bs i 4).2
  have W5 : ∀ w, Calls Try.prog 49 #[.int .u64 (Pk.wto bs i 5), .int .i64 5, .int .i64 (Pk.bv bs (i + 5))] w (Same (.int .u64 (Pk.wto bs i 6)) w) := fun w => with_any (Pk.wto bs i 5) 5 (Pk.bv bs (i + 5)) w (Pk.wto_bd bs i 5).1 (Pk.wto_bd bs i 5).2
  have W6 : ∀ w, Calls Try.prog 49 #[.int .u64 (Pk.wto bs i 6), .int .i64 6, .int .i64 (Pk.bv bs (i + 6))] w (Same (.int .u64 (Pk.wto bs i 7)) w) := fun w => with_any (Pk.wto bs i 6) 6 (Pk.bv bs (i + 6)) w (Pk.wto_bd bs i 6).1 (Pk.wto_bd bs i 6).2
  have W7 : ∀ w, Calls Try.prog 49 #[.int .u64 (Pk.wto bs i 7), .int .i64 7, .int .i64 (Pk.bv bs (i + 7))] w (Same (.int .u64 (Pk.wto bs i 8)) w) := fun w => with_any (Pk.wto bs i 7) 7 (Pk.bv bs (i + 7)) w (Pk.wto_bd bs i 7).1 (Pk.wto_bd bs i 7).2
  have b0 := Pk.bv_bd bs (i)
  have b1 := Pk.bv_bd bs (i + 1)
  have b2 := Pk.bv_bd bs (i + 2)
  have b3 := Pk.bv_bd bs (i + 3)
  have b4 := Pk.bv_bd bs (i + 4)
  have b5 := Pk.bv_bd bs (i + 5)
  have b6 := Pk.bv_bd bs (i + 6)
  have b7 := Pk.bv_bd bs (i + 7)
  generalize Pk.wto bs i 1 = x1 at *
  generalize Pk.wto bs i 2 = x2 at *
  generalize Pk.wto bs i 3 = x3 at *
  generalize Pk.wto bs i 4 = x4 at *
  generalize Pk.wto bs i 5 = x5 at *
  generalize Pk.wto bs i 6 = x6 at *
  generalize Pk.wto bs i 7 = x7 at *
  generalize Pk.wto bs i 8 = x8 at *
  have HW0 := Lib.hid W0; clear W0
  have HW1 := Lib.hid W1; clear W1
  have HW2 := Lib.hid W2; clear W2
  have HW3 := Lib.hid W3; clear W3
  have HW4 := Lib.hid W4; clear W4
  have HW5 := Lib.hid W5; clear W5
  have HW6 := Lib.hid W6; clear W6
  have HW7 := Lib.hid W7; clear W7
  obtain ⟨e, he⟩ : ∃ e : Nat, e = i + min 8 (bs.length - i) := ⟨_, rfl⟩
  have hp : Nat.min (e - i) 8 = (part bs i).length := by show min (e - i) 8 = _; rw [part_len]; omega
  have f1 : i ≤ e := by omega
  have f2 : (e : Int) ≤ (c : Int) := by omega
  have f3 : ¬ e = i := by omega
  have f4 : max (e : Int) 0 = (e : Int) := by omega
  have Hp := Lib.hid hp; clear hp
  have He := Lib.hid he; clear he
  go_enter Try.func45, Try.ntmps45
  go_wp2
  all_goals
    have hq1 : ((i : Int) + min 8 ((bs.length : Int) - (i : Int))) = (e : Int) := by have := He.out; omega
    first
      | (have hq : ((i : Int) + ((bs.length : Int) - (i : Int))) = (e : Int) := by omega
         rw [hq])
      | (have hq : ((i : Int) + 8) = (e : Int) := by omega
         rw [hq])
    clear hq1
    obtain ⟨w1, hw1⟩ : ∃ w1, w1 = w.alloc (.cells #[.int .u8 0, .int .u8 0, .int .u8 0, .int .u8 0, .int .u8 0, .int .u8 0, .int .u8 0, .int .u8 0] 97) := ⟨_, rfl⟩
    rw [← hw1]
    have hB : Below w.heap.size w w1.drew := by rw [hw1]; exact ((Below.refl _ _).alloc (Nat.le_refl _) _).drew
    have HG : Hid (w1.drew.heap[w.heap.size]? = some (.cells zero8.toArray 97 (0, 0))) := Lib.hid (by rw [hw1]; exact heap_alloc_new w _)
    have HC : Hid (∀ j, j < bs.length → w1.drew.cell? ⟨b, j, none⟩ = some (.int .u8 (Pk.bv bs j))) := Lib.hid (fun j hj => (hB.cell (p := ⟨b, j, none⟩) hb).trans (Hc.out j hj))
    clear hw1
    go_region_law (
      refine copied (bs := bs) (i := i) (b := b) (e := e) (g := w.heap.size) (w := w) ?k1 (.tmp 17) (.tmp 22) ?k2 ?k3 ?k4 ?k5 Hp.out ?k6 ?k7 (Nat.le_refl _) ?_
      case k1 => rfl
      case k2 => rfl
      case k3 => simp [go_sem]
      case k4 => simp [go_sem]
      case k5 => exact HG.out
      case k6 => exact HC.out
      case k7 => exact hB
      intro w4 HG4 hB4)
    have hg4 := HG4.out
    have c0 : w4.cell? ⟨w.heap.size, 0, none⟩ = some (.int .u8 (Pk.bv bs (i))) := oct_cell hg4 0 (by decide)
    have c1 : w4.cell? ⟨w.heap.size, 1, none⟩ = some (.int .u8 (Pk.bv bs (i + 1))) := oct_cell hg4 1 (by decide)
    have c2 : w4.cell? ⟨w.heap.size, 2, none⟩ = some (.int .u8 (Pk.bv bs (i + 2))) := oct_cell hg4 2 (by decide)
    have c3 : w4.cell? ⟨w.heap.size, 3, none⟩ = some (.int .u8 (Pk.bv bs (i + 3))) := oct_cell hg4 3 (by decide)
    have c4 : w4.cell? ⟨w.heap.size, 4, none⟩ = some (.int .u8 (Pk.bv bs (i + 4))) := oct_cell hg4 4 (by decide)
    have c5 : w4.cell? ⟨w.heap.size, 5, none⟩ = some (.int .u8 (Pk.bv bs (i + 5))) := oct_cell hg4 5 (by decide)
    have c6 : w4.cell? ⟨w.heap.size, 6, none⟩ = some (.int .u8 (Pk.bv bs (i + 6))) := oct_cell hg4 6 (by decide)
    have c7 : w4.cell? ⟨w.heap.size, 7, none⟩ = some (.int .u8 (Pk.bv bs (i + 7))) := oct_cell hg4 7 (by decide)
    clear hg4
    clear HG4 HG HC hB
    go_wp2
    have I0 := idx0 (Pk.bv bs i) (Pk.bv bs (i + 1)) (Pk.bv bs (i + 2)) (Pk.bv bs (i + 3)) (Pk.bv bs (i + 4)) (Pk.bv bs (i + 5)) (Pk.bv bs (i + 6)) (Pk.bv bs (i + 7))
    have I1 := idx1 (Pk.bv bs i) (Pk.bv bs (i + 1)) (Pk.bv bs (i + 2)) (Pk.bv bs (i + 3)) (Pk.bv bs (i + 4)) (Pk.bv bs (i + 5)) (Pk.bv bs (i + 6)) (Pk.bv bs (i + 7))
    have I2 := idx2 (Pk.bv bs i) (Pk.bv bs (i + 1)) (Pk.bv bs (i + 2)) (Pk.bv bs (i + 3)) (Pk.bv bs (i + 4)) (Pk.bv bs (i + 5)) (Pk.bv bs (i + 6)) (Pk.bv bs (i + 7))
    have I3 := idx3 (Pk.bv bs i) (Pk.bv bs (i + 1)) (Pk.bv bs (i + 2)) (Pk.bv bs (i + 3)) (Pk.bv bs (i + 4)) (Pk.bv bs (i + 5)) (Pk.bv bs (i + 6)) (Pk.bv bs (i + 7))
    have I4 := idx4 (Pk.bv bs i) (Pk.bv bs (i + 1)) (Pk.bv bs (i + 2)) (Pk.bv bs (i + 3)) (Pk.bv bs (i + 4)) (Pk.bv bs (i + 5)) (Pk.bv bs (i + 6)) (Pk.bv bs (i + 7))
    have I5 := idx5 (Pk.bv bs i) (Pk.bv bs (i + 1)) (Pk.bv bs (i + 2)) (Pk.bv bs (i + 3)) (Pk.bv bs (i + 4)) (Pk.bv bs (i + 5)) (Pk.bv bs (i + 6)) (Pk.bv bs (i + 7))
    have I6 := idx6 (Pk.bv bs i) (Pk.bv bs (i + 1)) (Pk.bv bs (i + 2)) (Pk.bv bs (i + 3)) (Pk.bv bs (i + 4)) (Pk.bv bs (i + 5)) (Pk.bv bs (i + 6)) (Pk.bv bs (i + 7))
    have I7 := idx7 (Pk.bv bs i) (Pk.bv bs (i + 1)) (Pk.bv bs (i + 2)) (Pk.bv bs (i + 3)) (Pk.bv bs (i + 4)) (Pk.bv bs (i + 5)) (Pk.bv bs (i + 6)) (Pk.bv bs (i + 7))
    refine wp_loop_rounds 9 ?_
    rw [rounds_succ]
    go_wp2_with fail
    with_reducible refine (HW0.out _).mono ?_
    rintro e1 w5 ⟨rfl, rfl⟩
    go_wp2
    rw [rounds_succ]
    go_wp2_with fail
    with_reducible refine (HW1.out _).mono ?_
    rintro e1 w5 ⟨rfl, rfl⟩
    go_wp2
    rw [rounds_succ]
    go_wp2_with fail
    with_reducible refine (HW2.out _).mono ?_
    rintro e1 w5 ⟨rfl, rfl⟩
    go_wp2
    rw [rounds_succ]
    go_wp2_with fail
    with_reducible refine (HW3.out _).mono ?_
    rintro e1 w5 ⟨rfl, rfl⟩
    go_wp2
    rw [rounds_succ]
    go_wp2_with fail
    with_reducible refine (HW4.out _).mono ?_
    rintro e1 w5 ⟨rfl, rfl⟩
    go_wp2
    rw [rounds_succ]
    go_wp2_with fail
    with_reducible refine (HW5.out _).mono ?_
    rintro e1 w5 ⟨rfl, rfl⟩
    go_wp2
    rw [rounds_succ]
    go_wp2_with fail
    with_reducible refine (HW6.out _).mono ?_
    rintro e1 w5 ⟨rfl, rfl⟩
    go_wp2
    rw [rounds_succ]
    go_wp2_with fail
    with_reducible refine (HW7.out _).mono ?_
    rintro e1 w5 ⟨rfl, rfl⟩
    go_wp2
    rw [rounds_succ]
    go_wp2
    go_ret
    exact ⟨rfl, hB4⟩
end Go.Proofs.Ytmpoaepkfjeecaa
