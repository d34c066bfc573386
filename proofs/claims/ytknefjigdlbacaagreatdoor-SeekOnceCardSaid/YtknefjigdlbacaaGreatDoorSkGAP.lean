/-
  Several texts in one: The walk of wordOf; The walk of Read; The walks of byteAt, Hash and the document's own Hash. By an AI agent.
-/
import Derived.Test.YtknefjigdlbacaaGreatDoorSkGAN
import Derived.Laws.CopyOwn
import Derived.Deep.RegionLaw
import Derived.Test.YtknefjigdlbacaaGreatDoorSkGAO
import Derived.Test.YtknefjigdlbacaaGreatDoorSkGAH
import Derived.Lib.IndexBytes
namespace Go.Proofs.YtknefjigdlbacaaGreatDoor
open Go.RowKit
/-- The bytes that are copied. -/
def part (bs : List UInt8) (i : Nat) : List Value := (List.range (min 8 (bs.length - i))).map fun j => Value.int .u8 (Pk.bv bs (i + j))
theorem part_len (bs : List UInt8) (i : Nat) : (part bs i).length = min 8 (bs.length - i) := by simp [part]
/-- The eight bytes from i on. -/
def oct (bs : List UInt8) (i : Nat) : List Value := [.int .u8 (Pk.bv bs i), .int .u8 (Pk.bv bs (i + 1)), .int .u8 (Pk.bv bs (i + 2)), .int .u8 (Pk.bv bs (i + 3)), .int .u8 (Pk.bv bs (i + 4)), .int .u8 (Pk.bv bs (i + 5)), .int .u8 (Pk.bv bs (i + 6)), .int .u8 (Pk.bv bs (i + 7))]
theorem splice_oct (bs : List UInt8) (i : Nat) : splice [.int .u8 0, .int .u8 0, .int .u8 0, .int .u8 0, .int .u8 0, .int .u8 0, .int .u8 0, .int .u8 0] 0 (part bs i) = oct bs i := by
  have key : ∀ m, m = min 8 (bs.length - i) → m ≤ 8 := by intro m h; omega
  have hz : ∀ j, min 8 (bs.length - i) ≤ j → j < 8 → Pk.bv bs (i + j) = 0 := fun j h1 h2 => Pk.bv_out (by omega)
  unfold part splice oct
  generalize hm : min 8 (bs.length - i) = m at hz
  have h8 : m = 8 ∨ m < 8 := by have := key m hm.symm; omega
  rcases h8 with rfl | h8
  · simp [List.range, List.range.loop]
  · have hz0 : m = 0 → Pk.bv bs i = 0 := fun e => by have := hz 0 (by omega) (by omega); simpa using this
    rcases Ln.eightN h8 with rfl | rfl | rfl | rfl | rfl | rfl | rfl | rfl <;> simp [List.range, List.range.loop, hz, hz0]
abbrev zero8 : List Value := [.int .u8 0, .int .u8 0, .int .u8 0, .int .u8 0, .int .u8 0, .int .u8 0, .int .u8 0, .int .u8 0]
theorem size_u8 : (Tryz.prog.info? 5).map (·.size) = some 1 := by kernel_rfl
theorem part_one (bs : List UInt8) (i : Nat) : ∀ v ∈ part bs i, v.oneCell' = true := by
  intro v hv
  simp only [part, List.mem_map] at hv
  obtain ⟨j, -, rfl⟩ := hv
  simp [Value.oneCell']
theorem part_cells {bs : List UInt8} {i b : Nat} {w : World} (hc : ∀ j, j < bs.length → w.cell? ⟨b, j, none⟩ = some (.int .u8 (Pk.bv bs j))) :
    ∀ j v, (part bs i)[j]? = some v → w.cell? ((⟨b, i, none⟩ : Addr).add j) = some v := by
  intro j v hj
  have hadd : (⟨b, i, none⟩ : Addr).add j = ⟨b, i + j, none⟩ := by unfold Addr.add; split <;> simp_all
  have hjl : j < (part bs i).length := (List.getElem?_eq_some_iff.1 hj).1
  have hjl' := hjl
  rw [part_len] at hjl'
  rw [List.getElem?_eq_getElem hjl] at hj
  simp [part] at hj
  rw [hadd, hc _ (by omega), ← hj]
theorem oct_cell {bs : List UInt8} {i g : Nat} {t : TypeId} {w : World} (h : w.heap[g]? = some (.cells (oct bs i).toArray t (0, 0))) (k : Nat) (hk : k < 8) : w.cell? ⟨g, k, none⟩ = some (.int .u8 (Pk.bv bs (i + k))) := by
  have : (oct bs i)[k]? = some (.int .u8 (Pk.bv bs (i + k))) := by
    rcases Ln.eightN hk with rfl | rfl | rfl | rfl | rfl | rfl | rfl | rfl <;> rfl
  simp [World.cell?, h, this]
theorem copied {bs : List UInt8} {i b e g : Nat} {w w1 : World} {ops : Array Oper} {o : Oper} {a : Act} {K : Act → World → Prop} {Q : Exit → Act → World → Prop} {E : Prop} (hgd : o.guard = none) (d s : Operand)
    (ho : o.op = .call { callee := .builtin .copy, args := #[d, s], argTypes := #[67, 67] })
    (hd : a.eval d = .slice (some ⟨g, 0, none⟩) 8 8) (hs : a.eval s = .slice (some ⟨b, i, none⟩) (e - i) (e - i))
    (hg : w1.heap[g]? = some (.cells zero8.toArray 197 (0, 0))) (hp : Nat.min (e - i) 8 = (part bs i).length)
    (hc : ∀ j, j < bs.length → w1.cell? ⟨b, j, none⟩ = some (.int .u8 (Pk.bv bs j))) (hB : Below w.heap.size w w1) (hBg : w.heap.size ≤ g)
    (h : ∀ w', Hid (w'.heap[g]? = some (.cells (oct bs i).toArray 197 (0, 0))) → Below w.heap.size w w' → K (a.put o.dst (goInt (part bs i).length)) w') :
    if Region.wanted o (yielded ops a.tmps) = true then Oper.wp Tryz.prog o a w1 K Q else E := by
  refine step_copy_splice hgd d s 67 67 ho 5 Tryz.underlying67 size_u8 _ _ _ _ _ _ hd hs g 0 zero8 197 hg (part bs i) hp.symm (fun _ => ⟨rfl, ⟨b, i, none⟩, rfl, part_cells hc⟩) (by rw [part_len]; show 0 + min 8 _ ≤ 8; omega) (part_one bs i) w.heap.size w hB hBg ?_
  intro w' h1 h2
  rw [splice_oct] at h1
  exact h w' h1 h2
theorem idx0 (y0 y1 y2 y3 y4 y5 y6 y7 : Int) : ∀ w : World, (Instr.index 197 (.agg #[.int .u8 y0, .int .u8 y1, .int .u8 y2, .int .u8 y3, .int .u8 y4, .int .u8 y5, .int .u8 y6, .int .u8 y7]) (.int .i64 0)).run Tryz.prog w = .ok (.int .u8 y0) w := fun _ => by kernel_rfl
theorem idx1 (y0 y1 y2 y3 y4 y5 y6 y7 : Int) : ∀ w : World, (Instr.index 197 (.agg #[.int .u8 y0, .int .u8 y1, .int .u8 y2, .int .u8 y3, .int .u8 y4, .int .u8 y5, .int .u8 y6, .int .u8 y7]) (.int .i64 1)).run Tryz.prog w = .ok (.int .u8 y1) w := fun _ => by kernel_rfl
theorem idx2 (y0 y1 y2 y3 y4 y5 y6 y7 : Int) : ∀ w : World, (Instr.index 197 (.agg #[.int .u8 y0, .int .u8 y1, .int .u8 y2, .int .u8 y3, .int .u8 y4, .int .u8 y5, .int .u8 y6, .int .u8 y7]) (.int .i64 2)).run Tryz.prog w = .ok (.int .u8 y2) w := fun _ => by kernel_rfl
theorem idx3 (y0 y1 y2 y3 y4 y5 y6 y7 : Int) : ∀ w : World, (Instr.index 197 (.agg #[.int .u8 y0, .int .u8 y1, .int .u8 y2, .int .u8 y3, .int .u8 y4, .int .u8 y5, .int .u8 y6, .int .u8 y7]) (.int .i64 3)).run Tryz.prog w = .ok (.int .u8 y3) w := fun _ => by kernel_rfl
theorem idx4 (y0 y1 y2 y3 y4 y5 y6 y7 : Int) : ∀ w : World, (Instr.index 197 (.agg #[.int .u8 y0, .int .u8 y1, .int .u8 y2, .int .u8 y3, .int .u8 y4, .int .u8 y5, .int .u8 y6, .int .u8 y7]) (.int .i64 4)).run Tryz.prog w = .ok (.int .u8 y4) w := fun _ => by kernel_rfl
theorem idx5 (y0 y1 y2 y3 y4 y5 y6 y7 : Int) : ∀ w : World, (Instr.index 197 (.agg #[.int .u8 y0, .int .u8 y1, .int .u8 y2, .int .u8 y3, .int .u8 y4, .int .u8 y5, .int .u8 y6, .int .u8 y7]) (.int .i64 5)).run Tryz.prog w = .ok (.int .u8 y5) w := fun _ => by kernel_rfl
theorem idx6 (y0 y1 y2 y3 y4 y5 y6 y7 : Int) : ∀ w : World, (Instr.index 197 (.agg #[.int .u8 y0, .int .u8 y1, .int .u8 y2, .int .u8 y3, .int .u8 y4, .int .u8 y5, .int .u8 y6, .int .u8 y7]) (.int .i64 6)).run Tryz.prog w = .ok (.int .u8 y6) w := fun _ => by kernel_rfl
theorem idx7 (y0 y1 y2 y3 y4 y5 y6 y7 : Int) : ∀ w : World, (Instr.index 197 (.agg #[.int .u8 y0, .int .u8 y1, .int .u8 y2, .int .u8 y3, .int .u8 y4, .int .u8 y5, .int .u8 y6, .int .u8 y7]) (.int .i64 7)).run Tryz.prog w = .ok (.int .u8 y7) w := fun _ => by kernel_rfl
set_option maxRecDepth 100000 in
set_option maxHeartbeats 4000000 in
theorem wordOf_any (bs : List UInt8) (i b c : Nat) (w : World) (hlen : bs.length ≤ 1099511627776) (hlc : bs.length ≤ c) (hi : i < bs.length) (hb : b < w.heap.size)
    (hc : ∀ j, j < bs.length → w.cell? ⟨b, j, none⟩ = some (.int .u8 (Pk.bv bs j))) :
    Calls Tryz.prog 163 #[.slice (some ⟨b, 0, none⟩) bs.length c, .int .i64 i] w (Gives (.int .u64 (Pk.wto bs i 8)) w) := by
  have Hc := Lib.hid hc; clear hc
  have W0 : ∀ w, Calls Tryz.prog 126 #[.int .u64 0, .int .i64 0, .int .i64 (Pk.bv bs i)] w (Same (.int .u64 (Pk.wto bs i 1)) w) := fun w => with_any (Pk.wto bs i 0) 0 (Pk.bv bs (i + 0)) w (Pk.wto_bd bs i 0).1 (Pk.wto_bd bs i 0).2
  have W1 : ∀ w, Calls Tryz.prog 126 #[.int .u64 (Pk.wto bs i 1), .int .i64 1, .int .i64 (Pk.bv bs (i + 1))] w (Same (.int .u64 (Pk.wto bs i 2)) w) := fun w => with_any (Pk.wto bs i 1) 1 (Pk.bv bs (i + 1)) w (Pk.wto_bd bs i 1).1 (Pk.wto_bd bs i 1).2
  have W2 : ∀ w, Calls Tryz.prog 126 #[.int .u64 (Pk.wto bs i 2), .int .i64 2, .int .i64 (Pk.bv bs (i + 2))] w (Same (.int .u64 (Pk.wto bs i 3)) w) := fun w => with_any (Pk.wto bs i 2) 2 (Pk.bv bs (i + 2)) w (Pk.wto_bd bs i 2).1 (Pk.wto_bd bs i 2).2
  have W3 : ∀ w, Calls Tryz.prog 126 #[.int .u64 (Pk.wto bs i 3), .int .i64 3, .int .i64 (Pk.bv bs (i + 3))] w (Same (.int .u64 (Pk.wto bs i 4)) w) := fun w => with_any (Pk.wto bs i 3) 3 (Pk.bv bs (i + 3)) w (Pk.wto_bd bs i 3).1 (Pk.wto_bd bs i 3).2
  have W4 : ∀ w, Calls Tryz.prog 126 #[.int .u64 (Pk.wto bs i 4), .int .i64 4, .int .i64 (Pk.bv bs (i + 4))] w (Same (.int .u64 (Pk.wto bs i 5)) w) := fun w => with_any (Pk.wto bs i 4) 4 (Pk.bv bs (i + 4)) w (Pk.wto_bd bs i 4).1 (Pk.wto_bd bs i 4).2
  have W5 : ∀ w, Calls Tryz.prog 126 #[.int .u64 (Pk.wto bs i 5), .int .i64 5, .int .i64 (Pk.bv bs (i + 5))] w (Same (.int .u64 (Pk.wto bs i 6)) w) := fun w => with_any (Pk.wto bs i 5) 5 (Pk.bv bs (i + 5)) w (Pk.wto_bd bs i 5).1 (Pk.wto_bd bs i 5).2
  have W6 : ∀ w, Calls Tryz.prog 126 #[.int .u64 (Pk.wto bs i 6), .int .i64 6, .int .i64 (Pk.bv bs (i + 6))] w (Same (.int .u64 (Pk.wto bs i 7)) w) := fun w => with_any (Pk.wto bs i 6) 6 (Pk.bv bs (i + 6)) w (Pk.wto_bd bs i 6).1 (Pk.wto_bd bs i 6).2
  have W7 : ∀ w, Calls Tryz.prog 126 #[.int .u64 (Pk.wto bs i 7), .int .i64 7, .int .i64 (Pk.bv bs (i + 7))] w (Same (.int .u64 (Pk.wto bs i 8)) w) := fun w => with_any (Pk.wto bs i 7) 7 (Pk.bv bs (i + 7)) w (Pk.wto_bd bs i 7).1 (Pk.wto_bd bs i 7).2
  have b0 := Pk.bv_bd bs (i)
  have b1 := Pk.bv_bd bs (i + 1)
  have b2 := Pk.bv_bd bs (i + 2)
  have b3 := Pk.bv_bd bs (i + 3)
  have b4 := Pk.bv_bd bs (i + 4)
  have b5 := Pk.bv_bd bs (i + 5)
  have b6 := Pk.bv_bd bs (i + 6)
  have b7 := Pk.bv_bd bs (i + 7)
  generalize Pk.wto bs i 1 = x1 at *
  generalize Pk.wto bs i 2 = x2 at *
  generalize Pk.wto bs i 3 = x3 at *
  generalize Pk.wto bs i 4 = x4 at *
  generalize Pk.wto bs i 5 = x5 at *
  generalize Pk.wto bs i 6 = x6 at *
  generalize Pk.wto bs i 7 = x7 at *
  generalize Pk.wto bs i 8 = x8 at *
  have HW0 := Lib.hid W0; clear W0
  have HW1 := Lib.hid W1; clear W1
  have HW2 := Lib.hid W2; clear W2
  have HW3 := Lib.hid W3; clear W3
  have HW4 := Lib.hid W4; clear W4
  have HW5 := Lib.hid W5; clear W5
  have HW6 := Lib.hid W6; clear W6
  have HW7 := Lib.hid W7; clear W7
  obtain ⟨e, he⟩ : ∃ e : Nat, e = i + min 8 (bs.length - i) := ⟨_, rfl⟩
  have hp : Nat.min (e - i) 8 = (part bs i).length := by show min (e - i) 8 = _; rw [part_len]; omega
  have f1 : i ≤ e := by omega
  have f2 : (e : Int) ≤ (c : Int) := by omega
  have f3 : ¬ e = i := by omega
  have f4 : max (e : Int) 0 = (e : Int) := by omega
  have Hp := Lib.hid hp; clear hp
  have He := Lib.hid he; clear he
  go_enter Tryz.func163, Tryz.ntmps163
  go_wp2
  all_goals
    have hq1 : ((i : Int) + min 8 ((bs.length : Int) - (i : Int))) = (e : Int) := by have := He.out; omega
    first
      | (have hq : ((i : Int) + ((bs.length : Int) - (i : Int))) = (e : Int) := by omega
         rw [hq])
      | (have hq : ((i : Int) + 8) = (e : Int) := by omega
         rw [hq])
    clear hq1
    obtain ⟨w1, hw1⟩ : ∃ w1, w1 = w.alloc (.cells #[.int .u8 0, .int .u8 0, .int .u8 0, .int .u8 0, .int .u8 0, .int .u8 0, .int .u8 0, .int .u8 0] 197) := ⟨_, rfl⟩
    rw [← hw1]
    have hB : Below w.heap.size w w1.drew := by rw [hw1]; exact ((Below.refl _ _).alloc (Nat.le_refl _) _).drew
    have HG : Hid (w1.drew.heap[w.heap.size]? = some (.cells zero8.toArray 197 (0, 0))) := Lib.hid (by rw [hw1]; exact heap_alloc_new w _)
    have HC : Hid (∀ j, j < bs.length → w1.drew.cell? ⟨b, j, none⟩ = some (.int .u8 (Pk.bv bs j))) := Lib.hid (fun j hj => (hB.cell (p := ⟨b, j, none⟩) hb).trans (Hc.out j hj))
    clear hw1
    go_region_law (
      refine copied (bs := bs) (i := i) (b := b) (e := e) (g := w.heap.size) (w := w) ?k1 (.tmp 17) (.tmp 22) ?k2 ?k3 ?k4 ?k5 Hp.out ?k6 ?k7 (Nat.le_refl _) ?_
      case k1 => rfl
      case k2 => rfl
      case k3 => simp [go_sem]
      case k4 => simp [go_sem]
      case k5 => exact HG.out
      case k6 => exact HC.out
      case k7 => exact hB
      intro w4 HG4 hB4)
    have hg4 := HG4.out
    have c0 : w4.cell? ⟨w.heap.size, 0, none⟩ = some (.int .u8 (Pk.bv bs (i))) := oct_cell hg4 0 (by decide)
    have c1 : w4.cell? ⟨w.heap.size, 1, none⟩ = some (.int .u8 (Pk.bv bs (i + 1))) := oct_cell hg4 1 (by decide)
    have c2 : w4.cell? ⟨w.heap.size, 2, none⟩ = some (.int .u8 (Pk.bv bs (i + 2))) := oct_cell hg4 2 (by decide)
    have c3 : w4.cell? ⟨w.heap.size, 3, none⟩ = some (.int .u8 (Pk.bv bs (i + 3))) := oct_cell hg4 3 (by decide)
    have c4 : w4.cell? ⟨w.heap.size, 4, none⟩ = some (.int .u8 (Pk.bv bs (i + 4))) := oct_cell hg4 4 (by decide)
    have c5 : w4.cell? ⟨w.heap.size, 5, none⟩ = some (.int .u8 (Pk.bv bs (i + 5))) := oct_cell hg4 5 (by decide)
    have c6 : w4.cell? ⟨w.heap.size, 6, none⟩ = some (.int .u8 (Pk.bv bs (i + 6))) := oct_cell hg4 6 (by decide)
    have c7 : w4.cell? ⟨w.heap.size, 7, none⟩ = some (.int .u8 (Pk.bv bs (i + 7))) := oct_cell hg4 7 (by decide)
    clear hg4
    clear HG4 HG HC hB
    go_wp2
    have I0 := idx0 (Pk.bv bs i) (Pk.bv bs (i + 1)) (Pk.bv bs (i + 2)) (Pk.bv bs (i + 3)) (Pk.bv bs (i + 4)) (Pk.bv bs (i + 5)) (Pk.bv bs (i + 6)) (Pk.bv bs (i + 7))
    have I1 := idx1 (Pk.bv bs i) (Pk.bv bs (i + 1)) (Pk.bv bs (i + 2)) (Pk.bv bs (i + 3)) (Pk.bv bs (i + 4)) (Pk.bv bs (i + 5)) (Pk.bv bs (i + 6)) (Pk.bv bs (i + 7))
    have I2 := idx2 (Pk.bv bs i) (Pk.bv bs (i + 1)) (Pk.bv bs (i + 2)) (Pk.bv bs (i + 3)) (Pk.bv bs (i + 4)) (Pk.bv bs (i + 5)) (Pk.bv bs (i + 6)) (Pk.bv bs (i + 7))
    have I3 := idx3 (Pk.bv bs i) (Pk.bv bs (i + 1)) (Pk.bv bs (i + 2)) (Pk.bv bs (i + 3)) (Pk.bv bs (i + 4)) (Pk.bv bs (i + 5)) (Pk.bv bs (i + 6)) (Pk.bv bs (i + 7))
    have I4 := idx4 (Pk.bv bs i) (Pk.bv bs (i + 1)) (Pk.bv bs (i + 2)) (Pk.bv bs (i + 3)) (Pk.bv bs (i + 4)) (Pk.bv bs (i + 5)) (Pk.bv bs (i + 6)) (Pk.bv bs (i + 7))
    have I5 := idx5 (Pk.bv bs i) (Pk.bv bs (i + 1)) (Pk.bv bs (i + 2)) (Pk.bv bs (i + 3)) (Pk.bv bs (i + 4)) (Pk.bv bs (i + 5)) (Pk.bv bs (i + 6)) (Pk.bv bs (i + 7))
    have I6 := idx6 (Pk.bv bs i) (Pk.bv bs (i + 1)) (Pk.bv bs (i + 2)) (Pk.bv bs (i + 3)) (Pk.bv bs (i + 4)) (Pk.bv bs (i + 5)) (Pk.bv bs (i + 6)) (Pk.bv bs (i + 7))
    have I7 := idx7 (Pk.bv bs i) (Pk.bv bs (i + 1)) (Pk.bv bs (i + 2)) (Pk.bv bs (i + 3)) (Pk.bv bs (i + 4)) (Pk.bv bs (i + 5)) (Pk.bv bs (i + 6)) (Pk.bv bs (i + 7))
    refine wp_loop_rounds 9 ?_
    rw [rounds_succ]
    go_wp2_with fail
    with_reducible refine (HW0.out _).mono ?_
    rintro e1 w5 ⟨rfl, rfl⟩
    go_wp2
    rw [rounds_succ]
    go_wp2_with fail
    with_reducible refine (HW1.out _).mono ?_
    rintro e1 w5 ⟨rfl, rfl⟩
    go_wp2
    rw [rounds_succ]
    go_wp2_with fail
    with_reducible refine (HW2.out _).mono ?_
    rintro e1 w5 ⟨rfl, rfl⟩
    go_wp2
    rw [rounds_succ]
    go_wp2_with fail
    with_reducible refine (HW3.out _).mono ?_
    rintro e1 w5 ⟨rfl, rfl⟩
    go_wp2
    rw [rounds_succ]
    go_wp2_with fail
    with_reducible refine (HW4.out _).mono ?_
    rintro e1 w5 ⟨rfl, rfl⟩
    go_wp2
    rw [rounds_succ]
    go_wp2_with fail
    with_reducible refine (HW5.out _).mono ?_
    rintro e1 w5 ⟨rfl, rfl⟩
    go_wp2
    rw [rounds_succ]
    go_wp2_with fail
    with_reducible refine (HW6.out _).mono ?_
    rintro e1 w5 ⟨rfl, rfl⟩
    go_wp2
    rw [rounds_succ]
    go_wp2_with fail
    with_reducible refine (HW7.out _).mono ?_
    rintro e1 w5 ⟨rfl, rfl⟩
    go_wp2
    rw [rounds_succ]
    go_wp2
    go_ret
    exact ⟨rfl, hB4⟩
end Go.Proofs.YtknefjigdlbacaaGreatDoor
namespace Go.Proofs.YtknefjigdlbacaaGreatDoor
open Go.RowKit
abbrev zero6 : List Value := [.int .u64 0, .int .u64 0, .int .u64 0, .int .u64 0, .int .u64 0, .int .u64 0]
/-- What is copied out of words. -/
def first6 (l : List Int) : List Value := (l.take 6).map (Value.int .u64)
theorem first6_len (l : List Int) : (first6 l).length = min 6 l.length := by simp [first6]
theorem first6_one (l : List Int) : ∀ v ∈ first6 l, v.oneCell' = true := by
  intro v hv
  simp only [first6, List.mem_map] at hv
  obtain ⟨j, -, rfl⟩ := hv
  simp [Value.oneCell']
theorem splice_pad (l : List Int) : splice zero6 0 (first6 l) = (Bx.pad l).map (Value.int .u64) := by
  rw [← Bx.pad_splice l]
  unfold splice first6 zero6
  simp
theorem sl_cells {l : List Int} {w : World} {A : Option Addr} {B : Nat} (h : Sl .u64 w B A l) (h0 : 0 < (first6 l).length) : ∃ ad, A = some ad ∧ ∀ j v, (first6 l)[j]? = some v → w.cell? (ad.add j) = some v := by
  rcases h with rfl | ⟨b, off, rfl, hb, hc⟩
  · simp [first6] at h0
  · refine ⟨_, rfl, fun j v hj => ?_⟩
    have hadd : (⟨b, off, none⟩ : Addr).add j = ⟨b, off + j, none⟩ := by unfold Addr.add; split <;> simp_all
    have hjl : j < (first6 l).length := (List.getElem?_eq_some_iff.1 hj).1
    have hjl' := hjl
    rw [first6_len] at hjl'
    rw [List.getElem?_eq_getElem hjl] at hj
    simp [first6] at hj
    rw [hadd, hc _ (by omega), ← hj]
theorem pad_wf {l : List Int} (hx : ∀ x ∈ l, 0 ≤ x ∧ x ≤ 18446744073709551615) : ∀ x ∈ Bx.pad l, 0 ≤ x ∧ x ≤ 18446744073709551615 := by
  intro x h
  simp only [Bx.pad, List.mem_map] at h
  obtain ⟨k, -, rfl⟩ := h
  exact getD_wf hx k
/-- The cells behind the i-th one. -/
theorem pad_sl {l : List Int} {w : World} {g i : Nat} {t : TypeId} (h : w.heap[g]? = some (.cells ((Bx.pad l).map (Value.int .u64)).toArray t (0, 0))) : Sl .u64 w w.heap.size (some ⟨g, i, none⟩) ((Bx.pad l).drop i) := by
  refine .inr ⟨g, i, rfl, (Array.getElem?_eq_some_iff.1 h).1, fun j hj => ?_⟩
  rw [List.length_drop] at hj
  simp [World.cell?, h]
theorem pad_cell0 {l : List Int} {w : World} {g : Nat} {t : TypeId} (h : w.heap[g]? = some (.cells ((Bx.pad l).map (Value.int .u64)).toArray t (0, 0))) : w.cell? ⟨g, 0, none⟩ = some (.int .u64 (l.getD 0 0)) := by
  simp [World.cell?, h, Bx.pad_cells]
set_option maxRecDepth 100000 in
set_option maxHeartbeats 2000000 in
theorem read_any (l : List Int) (A : Option Addr) (c : Nat) (w : World) (hl : l.length ≤ 1000000) (hx : ∀ x ∈ l, 0 ≤ x ∧ x ≤ 18446744073709551615) (h : Sl .u64 w w.heap.size A l) :
    Calls Tryz.prog 157 #[.slice A l.length c] w (Gives (texts (Bx.key l) (Bx.val l)) w) := by
  have hy := getD_wf hx 0
  have L := fun w => lens_any (l.getD 0 0) w hy.1 hy.2
  obtain ⟨y, hyy⟩ : ∃ y, y = l.getD 0 0 := ⟨_, rfl⟩
  obtain ⟨k, hk, hk16⟩ := Bx.lk_nat (l.getD 0 0)
  obtain ⟨v, hv, hv24⟩ := Bx.lv_nat (l.getD 0 0)
  have ek : Bx.key l = Pk.txt ((Bx.pad l).drop 1) k := by unfold Bx.key; rw [hk, Int.toNat_natCast, Bx.pad_txt (by omega)]
  have hm2 : Pk.cnt k ≤ 2 := Bx.cnt_le (by omega)
  have ev : Bx.val l = Pk.txt ((Bx.pad l).drop (1 + Pk.cnt k)) v := by unfold Bx.val; rw [hk, hv, Int.toNat_natCast, Int.toNat_natCast, Bx.pad_txt (by omega)]
  rw [hk, hv, ← hyy] at L
  have HYY := Lib.hid hyy; clear hyy
  have M := fun w => many_any (k : Int) w (by omega) (by omega)
  rw [← Pk.cnt_many] at M
  rw [ek, ev]
  clear ek ev hk hv
  obtain ⟨m, hm⟩ : ∃ m, m = Pk.cnt k := ⟨_, rfl⟩
  rw [← hm] at M hm2 ⊢
  clear hm
  have T1 : ∀ (w : World) g c, Sl .u64 w w.heap.size (some ⟨g, 1, none⟩) ((Bx.pad l).drop 1) → Calls Tryz.prog 165 #[.slice (some ⟨g, 1, none⟩) 5 c, .int .i64 k] w (Gives (.string ⟨(Pk.txt ((Bx.pad l).drop 1) k).toArray⟩) w) := fun w g c h => by
    have hl : ((Bx.pad l).drop 1).length = 5 := by rw [List.length_drop, Bx.pad_len]
    have := text_any ((Bx.pad l).drop 1) (some ⟨g, 1, none⟩) c k w (by omega) (by omega) (fun x hm => pad_wf hx x (List.mem_of_mem_drop hm)) h
    rwa [hl] at this
  have T2 : ∀ (w : World) g c, Sl .u64 w w.heap.size (some ⟨g, 1 + m, none⟩) ((Bx.pad l).drop (1 + m)) → Calls Tryz.prog 165 #[.slice (some ⟨g, 1 + m, none⟩) (5 - m) c, .int .i64 v] w (Gives (.string ⟨(Pk.txt ((Bx.pad l).drop (1 + m)) v).toArray⟩) w) := fun w g c h => by
    have hl : ((Bx.pad l).drop (1 + m)).length = 5 - m := by rw [List.length_drop, Bx.pad_len]; omega
    have := text_any ((Bx.pad l).drop (1 + m)) (some ⟨g, 1 + m, none⟩) c v w (by omega) (by omega) (fun x hm => pad_wf hx x (List.mem_of_mem_drop hm)) h
    rwa [hl] at this
  have HL := Lib.hid L; clear L
  have HM := Lib.hid M; clear M
  have HT1 := Lib.hid T1; clear T1
  have HT2 := Lib.hid T2; clear T2
  clear hx hy
  obtain ⟨ta, hta⟩ : ∃ ta, ta = Pk.txt ((Bx.pad l).drop 1) k := ⟨_, rfl⟩
  obtain ⟨tb, htb⟩ : ∃ tb, tb = Pk.txt ((Bx.pad l).drop (1 + m)) v := ⟨_, rfl⟩
  rw [← hta] at HT1 ⊢
  rw [← htb] at HT2 ⊢
  clear hta htb
  go_enter Tryz.func157, Tryz.ntmps157
  go_wp2_with (refine wpList_copy_splice ?k1 (.tmp 8) (.tmp 9) 29 29 ?k2 22 Tryz.underlying29 size_u64 (some ⟨w.heap.size, 0, none⟩) A 6 6 l.length c ?k3 ?k4 w.heap.size 0 zero6 188 ?k5 (first6 l) ?k6 ?k7 ?k8 (first6_one l) w.heap.size w ?k9 (Nat.le_refl _) ?_; (case k1 => rfl); (case k2 => rfl); (case k3 => simp [go_sem]); (case k4 => simp [go_sem]); (case k5 => exact heap_alloc_new w _); (case k6 => rw [first6_len]; show min 6 _ = min _ 6; omega); (case k7 => exact fun h0 => ⟨rfl, sl_cells (h.below ((Below.refl _ _).alloc (Nat.le_refl _) _)) h0⟩); (case k8 => rw [first6_len]; show 0 + min 6 _ ≤ 6; omega); (case k9 => exact (Below.refl _ _).alloc (Nat.le_refl _) _); intro w2 HG2 hB2; have HG := HG2.out; rw [splice_pad] at HG; have g0 := pad_cell0 HG; rw [← HYY.out] at g0; have S1 := pad_sl (i := 1) HG; have S2 := pad_sl (i := 1 + m) HG; clear HG HG2)
  go_wp2_with fail
  with_reducible refine (HL.out _).mono ?_
  rintro e w3 ⟨rfl, rfl⟩
  go_wp2_with fail
  with_reducible refine (HT1.out _ _ _ S1).mono ?_
  rintro e w3 ⟨rfl, hb3⟩
  go_wp2_with fail
  with_reducible refine (HM.out _).mono ?_
  rintro e w4 ⟨rfl, rfl⟩
  go_wp2_with fail
  with_reducible refine (HT2.out _ _ _ ((S2.below hb3).mono hb3.size)).mono ?_
  rintro e w4 ⟨rfl, hb4⟩
  go_wp2
  go_ret2
  exact ⟨rfl, hB2.trans ((below_then hb3 hb4).mono hB2.size)⟩
end Go.Proofs.YtknefjigdlbacaaGreatDoor
namespace Go.Proofs.YtknefjigdlbacaaGreatDoor
open Go.RowKit
theorem ba_getElem (s : ByteArray) (k : Nat) (h : k < s.size) : s[k] = s.data.toList[k]'(by simpa using h) := by
  simp [ByteArray.getElem_eq_getElem_data]
theorem ba_len (s : ByteArray) : s.data.toList.length = s.size := Array.length_toList
theorem roll_next {h : Nat} {s : ByteArray} {k : Nat} (hk : k < s.size) : Mx.roll h (s.data.toList.take (k + 1)) = Mx.step (Mx.roll h (s.data.toList.take k)) s[k] := by
  rw [Mx.roll_take (by rw [ba_len]; exact hk), ba_getElem s k hk]
theorem roll_all {h : Nat} {s : ByteArray} {k : Nat} (hk : s.size ≤ k) : Mx.roll h (s.data.toList.take k) = Mx.roll h s.data.toList := by
  rw [List.take_of_length_le (by rw [ba_len]; exact hk)]
set_option maxHeartbeats 1000000 in
theorem byteAt_any (s : ByteArray) (k : Nat) (w : World) (hk : k < s.size) : Calls Tryz.prog 71 #[.string s, .int .i64 (k : Int)] w (Same (.int .i32 (s[k].toNat : Int)) w) := by
  go_enter Tryz.func71, Tryz.ntmps71
  have hb := s[k].toNat_lt
  go_wp2
  go_ret
  exact ⟨rfl, rfl⟩
set_option maxHeartbeats 1000000 in
theorem hash_any (h : Nat) (s : ByteArray) (w : World) (hh : h < 18446744073709551616) (hs : s.size ≤ maxLen) : Calls Tryz.prog 21 #[.int .u64 (h : Int), .string s] w (Same (.int .u64 (Mx.hsh h s.data.toList : Nat)) w) := by
  unfold maxLen at hs
  go_enter Tryz.func21, Tryz.ntmps21
  go_wp2
  go_loop [5, 10] (fun a i => ∃ (k n : Nat), k ≤ s.size ∧ i = .int .i64 k ∧ a = .int .u64 (n : Int) ∧ n = Mx.roll h (s.data.toList.take k)) (fun _ i => s.size - (intOf i).toNat)
  case atStart => exact ⟨0, h, Nat.zero_le _, rfl, rfl, rfl⟩
  case round =>
    obtain ⟨k, n, hk, rfl, rfl, hn⟩ := hrel
    have hnl : n < 18446744073709551616 := hn ▸ Mx.roll_lt _ hh
    have Hn := Lib.hid hn; clear hn
    by_cases hlt : k < s.size
    · have hst := Mx.bits_step (s[k]) hnl
      have hbl := s[k].toNat_lt
      have hwr : IntKind.u64.wrap (s[k].toNat : Int) = (s[k].toNat : Int) := u64_wrap_small (by omega) (by omega)
      have Hnx : Hid (Mx.step n s[k] = Mx.roll h (s.data.toList.take (k + 1))) := Lib.hid (by rw [roll_next hlt, Hn.out])
      go_wp2_with (go_at_call 71; refine (byteAt_any _ _ _ hlt).mono ?_; rintro e w' ⟨rfl, rfl⟩)
      go_round
      case rel => exact ⟨k + 1, _, by omega, by go_num, rfl, Hnx.out⟩
      case measure => simp [intOf]; omega
    · have Hall : Hid (Mx.spr n = Mx.hsh h s.data.toList) := Lib.hid (by unfold Mx.hsh; rw [Hn.out, roll_all (by omega)])
      go_wp2_with (go_at_call 72; refine (spread_any _ _ hnl).mono ?_; rintro e w' ⟨rfl, rfl⟩)
      go_ret
      exact ⟨ret_int (by rw [Hall.out]), rfl⟩
set_option maxHeartbeats 1000000 in
theorem rhash_any (h : Nat) (s : ByteArray) (w : World) (hh : h < 18446744073709551616) (hs : s.size ≤ maxLen) : Calls Tryz.prog 43 #[.int .u64 (h : Int), .string s] w (Same (.int .u64 (Mx.hsh h s.data.toList : Nat)) w) := by
  unfold maxLen at hs
  go_enter Tryz.func43, Tryz.ntmps43
  go_wp2
  go_loop [5, 6] (fun a i => ∃ (k n : Nat), k ≤ s.size ∧ i = .int .i64 k ∧ a = .int .u64 (n : Int) ∧ n = Mx.roll h (s.data.toList.take k)) (fun _ i => s.size - (intOf i).toNat)
  case atStart => exact ⟨0, h, Nat.zero_le _, rfl, rfl, rfl⟩
  case round =>
    obtain ⟨k, n, hk, rfl, rfl, hn⟩ := hrel
    have hnl : n < 18446744073709551616 := hn ▸ Mx.roll_lt _ hh
    have Hn := Lib.hid hn; clear hn
    by_cases hlt : k < s.size
    · have Hnx : Hid (Mx.step n s[k] = Mx.roll h (s.data.toList.take (k + 1))) := Lib.hid (by rw [roll_next hlt, Hn.out])
      have hbl := Mx.byte_lt s[k]
      have X := fun w => xor_any n s[k].toNat w hnl hbl
      have T : ∀ w, Calls Tryz.prog 99 #[.int .u64 ((n ^^^ s[k].toNat : Nat) : Int), .int .u64 1099511628211] w (Same (.int .u64 (Mx.step n s[k] : Nat)) w) := fun w => times_any (n ^^^ s[k].toNat) 1099511628211 w
      have HX := Lib.hid X; clear X
      have HT := Lib.hid T; clear T
      go_wp2_with fail
      with_reducible refine (HX.out _).mono ?_
      rintro e w1 ⟨rfl, rfl⟩
      go_wp2_with fail
      with_reducible refine (HT.out _).mono ?_
      rintro e w1 ⟨rfl, rfl⟩
      go_wp2
      go_round
      case rel => exact ⟨k + 1, _, by omega, by go_num, rfl, Hnx.out⟩
      case measure => simp [intOf]; omega
    · have Hall : Hid (Mx.spr n = Mx.hsh h s.data.toList) := Lib.hid (by unfold Mx.hsh; rw [Hn.out, roll_all (by omega)])
      have X1 : ∀ w, Calls Tryz.prog 100 #[.int .u64 (n : Int), .int .u64 ((n : Int) / 4294967296)] w (Same (.int .u64 ((n ^^^ n / 4294967296 : Nat) : Int)) w) := fun w => by
        have := xor_any n (n / 4294967296) w hnl (Mx.div_lt hnl)
        rwa [Int.natCast_ediv] at this
      have T1 : ∀ w, Calls Tryz.prog 99 #[.int .u64 ((n ^^^ n / 4294967296 : Nat) : Int), .int .u64 11400714819323198485] w (Same (.int .u64 (Mx.mid n : Nat)) w) := fun w => times_any (n ^^^ n / 4294967296) 11400714819323198485 w
      have X2 : ∀ w, Calls Tryz.prog 100 #[.int .u64 (Mx.mid n : Nat), .int .u64 ((Mx.mid n : Int) / 536870912)] w (Same (.int .u64 (Mx.spr n : Nat)) w) := fun w => by
        have := xor_any (Mx.mid n) (Mx.mid n / 536870912) w (Mx.mid_lt n) (Mx.div_lt (Mx.mid_lt n))
        rwa [Int.natCast_ediv] at this
      have ml := Mx.mid_lt n
      have HX1 := Lib.hid X1; clear X1
      have HT1 := Lib.hid T1; clear T1
      have HX2 := Lib.hid X2; clear X2
      go_wp2_with fail
      with_reducible refine (HX1.out _).mono ?_
      rintro e w1 ⟨rfl, rfl⟩
      go_wp2_with fail
      with_reducible refine (HT1.out _).mono ?_
      rintro e w1 ⟨rfl, rfl⟩
      go_wp2_with fail
      with_reducible refine (HX2.out _).mono ?_
      rintro e w1 ⟨rfl, rfl⟩
      go_wp2
      go_ret
      exact ⟨ret_int (by rw [Hall.out]), rfl⟩
end Go.Proofs.YtknefjigdlbacaaGreatDoor
