/-
  The walks of the document's own Get and Delete, of any list of pairs. By an AI agent.
-/
import Derived.Test.YtigopifioijjlaaSpecParts
set_option linter.unusedSimpArgs false
namespace Go.Proofs.Ytigopifioijjlaa
open Go.RowKit
open Dc (Pr Rpl)
theorem gt_drop {l : List Pr} {k : Nat} (h : k < l.length) (key : ByteArray) : Dc.gt (l.drop k) key = if Dc.ke l[k].1 key = true then some l[k].2 else Dc.gt (l.drop (k + 1)) key := by
  rw [List.drop_eq_getElem_cons h]
  cases e : Dc.ke l[k].1 key
  · rw [Dc.gt_tail e]; rfl
  · have e2 := Dc.ke_iff.1 e
    rw [← e2]; exact Dc.gt_head _ _
set_option maxHeartbeats 2000000 in
theorem rget_any (v : Value) (l : List Pr) (key : ByteArray) (w : World) (h : Lst w v l) (hl : l.length ≤ 1000000) :
    Calls Try.prog 20 #[v, .string key] w (Same (ans (Dc.gt l key)) w) := by
  obtain ⟨va, vc, rfl, hp⟩ := h
  have HR := Lib.hid hp; clear hp
  go_enter Try.func20, Try.ntmps20
  go_wp2
  go_loop [6] (fun i => ∃ k : Nat, k ≤ l.length ∧ i = .int .i64 k ∧ Hid (Dc.gt l key = Dc.gt (l.drop k) key)) (fun i => l.length - (intOf i).toNat)
  case atStart => exact ⟨0, by omega, rfl, Lib.hid rfl⟩
  case round =>
    obtain ⟨k, hk, rfl, HG⟩ := hrel
    by_cases hlt : k < l.length
    · obtain ⟨g, off, rfl, hc⟩ := HR.out.at hlt
      obtain ⟨d1, d2⟩ := hc k hlt w (Below.refl _ _)
      clear hc
      have hltZ : (k : Int) < (l.length : Int) := by omega
      have hd := gt_drop hlt key
      cases he : Dc.ke l[k].1 key
      · have he' : (l[k].1.toList == key.toList) = false := he
        rw [he] at hd
        have HD := Lib.hid hd; clear hd he
        go_wp2
        go_round
        case rel => exact ⟨k + 1, by omega, by go_num, Lib.hid (by rw [HG.out, HD.out]; rfl)⟩
        case measure => simp [intOf]; omega
      · have he' : (l[k].1.toList == key.toList) = true := he
        rw [he] at hd
        have HD := Lib.hid hd; clear hd he
        go_wp2
        go_ret2
        exact ⟨by rw [HG.out, HD.out]; rfl, rfl⟩
    · obtain rfl : k = l.length := by omega
      go_wp2
      go_ret2
      refine ⟨?_, rfl⟩
      rw [HG.out, List.drop_length]; rfl
theorem del_snoc (l : List Pr) (k : Nat) (h : k < l.length) (key : ByteArray) : Dc.del (l.take (k + 1)) key = Dc.del (l.take k) key ++ (if Dc.ke l[k].1 key = true then [] else [l[k]]) := by
  rw [← List.take_append_getElem h]
  unfold Dc.del
  rw [List.filter_append]
  cases e : Dc.ke l[k].1 key <;> simp [e]
set_option maxHeartbeats 2000000 in
theorem rdel_any (v : Value) (l : List Pr) (key : ByteArray) (w : World) (h : Lst w v l) (hl : l.length ≤ 1000000) :
    Calls Try.prog 19 #[v, .string key] w (Tells (Dc.del l key) w) := by
  obtain ⟨va, vc, rfl, hp⟩ := h
  have HR := Lib.hid hp; clear hp
  obtain ⟨i0, hi, hz0, hz1, hz2⟩ := info_parts info_api
  have Hz0 := Lib.hid hz0; clear hz0
  have Hz1 := Lib.hid hz1; clear hz1
  have Hz2 := Lib.hid hz2; clear hz2
  have Hi := Lib.hid hi; clear hi
  have r0 := World.ownsRow_lit (base := w.heap.size) (e := 46) (size := 2) w #[] 0 (Nat.le_refl _) (by decide) (by decide)
  have hB0 : Below w.heap.size w (w.alloc (.cells #[] 46)) := (Below.refl _ w).alloc (Nat.le_refl _) _
  go_enter Try.func19, Try.ntmps19
  go_wp2
  go_loopw [5, 6] (fun u i wr => ∃ k : Nat, k ≤ l.length ∧ i = .int .i64 k ∧ Row w.heap.size 46 wr u (Dc.del (l.take k) key) ∧ Below w.heap.size w wr) (fun _ i _ => l.length - (intOf i).toNat)
  case atStart => exact ⟨0, by omega, rfl, r0, hB0⟩
  case round =>
    obtain ⟨k, hk, rfl, hown, hB⟩ := hrel
    clear r0 hB0
    by_cases hlt : k < l.length
    · obtain ⟨g, off, rfl, hc⟩ := HR.out.at hlt
      obtain ⟨d1, d2⟩ := hc k hlt wr hB
      have hltZ : (k : Int) < (l.length : Int) := by omega
      have hd := del_snoc l k hlt key
      have hlen : (Dc.del (l.take k) key).length ≤ 1000000 := by have := Dc.len_del (l.take k) key; simp at this; omega
      clear hc
      cases he : Dc.ke l[k].1 key
      · have he' : (l[k].1.toList == key.toList) = false := he
        rw [he] at hd
        have HD := Lib.hid hd; clear hd he
        have HO := Lib.hid (Row.raw hown)
        clear hown
        generalize Dc.del (l.take k) key = D at *
        go_wp2_with (at_builtin; refine wpList_append_own _ rfl _ _ 24 rfl w.heap.size 46 i0 (.agg #[.string ⟨#[]⟩, .string ⟨#[]⟩]) 2 32 Try.underlying24 Hi.out Hz0.out Hz1.out Hz2.out rfl (by decide) _ _ _ rfl (HO.out.alloc _) ⟨_, 0, none⟩ 1 1 [.string l[k].1, .string l[k].2] rfl rfl ?c1 ?c2 ?c3 ?c4 ?c5 ?_)
        case c1 => exact cell_two_new _ _ _ _
        case c2 => simp [Value.oneCell']
        case c3 => unfold maxLen; omega
        case c4 => omega
        case c5 => have := hB.size; simp; omega
        intro v' w3 hown' hgrow _
        have hB3 : Below w.heap.size w w3 := (hB.alloc hB.size _).grown hgrow (by have := hB.size; simp; omega) (fun j e => (HO.out.lt j e).1)
        go_wp2
        go_roundw
        case rel => exact ⟨k + 1, by omega, by go_num, by rw [HD.out]; simpa [Row, enc_append, enc] using hown', hB3⟩
        case measure => simp [intOf]; omega
      · have he' : (l[k].1.toList == key.toList) = true := he
        rw [he] at hd
        have HD := Lib.hid hd; clear hd he
        go_wp2
        go_roundw
        case rel => exact ⟨k + 1, by omega, by go_num, by rw [HD.out]; simpa using hown, hB⟩
        case measure => simp [intOf]; omega
    · obtain rfl : k = l.length := by omega
      go_wp2
      go_ret
      exact ⟨_, rfl, by simpa using hown, hB⟩
end Go.Proofs.Ytigopifioijjlaa
