/-
  The walks of sort.Search, of the closure that it asks, and of find: a key's place. By an AI agent.
-/
import Derived.Test.YtigopifioijjlaaDictParts
import Derived.BigQuiet
import Derived.Deep.LoopGhost
import Derived.Shelf.Abstract
namespace Go.Proofs.Ytigopifioijjlaa
open Go.RowKit
open Dc (Pr)
theorem drewN_drewN' (w : World) (a b : Nat) : (w.drewN a).drewN b = w.drewN (a + b) := by simp [World.drewN, Nat.add_assoc]
theorem below_drewNN (w : World) (n m : Nat) : Below w.heap.size w ((w.drewN n).drewN m) := ⟨rfl, rfl, rfl, Nat.le_refl _, fun _ _ => rfl⟩
theorem below_drewN (w : World) (n : Nat) : Below w.heap.size w (w.drewN n) := ⟨rfl, rfl, rfl, Nat.le_refl _, fun _ _ => rfl⟩
set_option maxHeartbeats 2000000 in
/-- sort.Search of a closure that only reads: the place a from which on it says true. -/
theorem search_any (g : Nat) (cb : Array Value) (n a : Nat) (w : World) (ha : a ≤ n) (hn : n < 4611686018427387904)
    (hf : ∀ (m i : Nat), i < n → Calls Try.prog g (#[.int .i64 i] ++ cb) (w.drewN m) fun e w' => e = .returned (.bool (decide (a ≤ i))) ∧ ∃ q, w' = (w.drewN m).drewN q)
    (eg : ∀ args w, (callFunc g args).run Try.prog w = .ok (.enter g args) w) :
    Calls Try.prog 39 #[.int .i64 n, .func (.func g) #[] cb] w fun e w' => e = .returned (.int .i64 (a : Int)) ∧ ∃ q, w' = w.drewN q := by
  have HF := Lib.hid hf; clear hf
  go_enter Try.func39, Try.ntmps39
  go_wp2
  go_loopg [5, 6] n (fun kx s5 s6 wr => ∃ (lo hi q : Nat), s5 = .int .i64 lo ∧ s6 = .int .i64 hi ∧ lo ≤ a ∧ a ≤ hi ∧ hi ≤ n ∧ hi - lo ≤ kx ∧ wr = w.drewN q)
  case atStart => exact ⟨0, n, 0, rfl, rfl, Nat.zero_le _, ha, Nat.le_refl _, by omega, rfl⟩
  case round =>
    obtain ⟨lo, hi, q, rfl, rfl, hlo, hhi, hin, hg, rfl⟩ := hrel
    by_cases hlt : lo < hi
    · have hc := HF.out q ((lo + hi) / 2) (by omega)
      rw [show (((lo + hi) / 2 : Nat) : Int) = ((lo : Int) + (hi : Int)) / 2 by omega] at hc
      by_cases hp : a ≤ (lo + hi) / 2
      · rw [decide_eq_true hp] at hc
        go_wp2_with (go_at_fn g; refine hc.mono ?_; rintro e w' ⟨rfl, nq, rfl⟩)
        go_roundg ((lo + hi) / 2 - lo)
        case measure => omega
        case rel => exact ⟨lo, (lo + hi) / 2, q + nq, rfl, by rw [show ((lo : Int) + (hi : Int)) / 2 = (((lo + hi) / 2 : Nat) : Int) by omega], hlo, hp, by omega, Nat.le_refl _, rfl⟩
      · rw [decide_eq_false hp] at hc
        go_wp2_with (go_at_fn g; refine hc.mono ?_; rintro e w' ⟨rfl, nq, rfl⟩)
        go_roundg (hi - ((lo + hi) / 2 + 1))
        case measure => omega
        case rel => exact ⟨(lo + hi) / 2 + 1, hi, q + nq, by rw [show ((lo : Int) + (hi : Int)) / 2 + 1 = (((lo + hi) / 2 + 1 : Nat) : Int) by omega], rfl, by omega, hhi, hin, Nat.le_refl _, rfl⟩
    · obtain rfl : lo = hi := by omega
      obtain rfl : a = lo := by omega
      go_wp2
      go_ret
      exact ⟨rfl, q, rfl⟩
theorem Row.addr {B : Nat} {t : TypeId} {w : World} {v : Value} {l : List Pr} (h : Row B t w v l) {k : Nat} (hk : k < l.length) : ∃ g c, v = .slice (some ⟨g, 0, none⟩) l.length c := by
  rcases h.2 with ⟨rfl, h0⟩ | ⟨g, cap, cur, rfl, _⟩
  · omega
  · exact ⟨g, cap, rfl⟩
theorem Row.key {B : Nat} {t : TypeId} {w : World} {l : List Pr} {g c : Nat} (h : Row B t w (.slice (some ⟨g, 0, none⟩) l.length c) l) {k : Nat} (hk : k < l.length) : w.cell? ⟨g, k * 2, none⟩ = some (.string l[k].1) := by
  rw [World.ownsRow.cellAt h (k * 2) (by omega), Nat.mul_comm k 2, enc_key l k hk]
theorem Row.val {B : Nat} {t : TypeId} {w : World} {l : List Pr} {g c : Nat} (h : Row B t w (.slice (some ⟨g, 0, none⟩) l.length c) l) {k : Nat} (hk : k < l.length) : w.cell? ⟨g, k * 2 + 1, none⟩ = some (.string l[k].2) := by
  rw [World.ownsRow.cellAt h (k * 2 + 1) (by omega), Nat.mul_comm k 2, enc_val l k hk]
theorem enters26 : ∀ args w, (callFunc 40 args).run Try.prog w = .ok (.enter 40 args) w := enters_of Try.func40 (by kernel_rfl) rfl
set_option maxHeartbeats 2000000 in
/-- The closure: is the pair's key at i not ahead of k? -/
theorem closure_any (B p b1 b2 : Nat) (v : Value) (l : List Pr) (k : ByteArray) (i : Nat) (w : World) (h : Mp B w p v l) (hi : i < l.length)
    (h1 : w.cell? ⟨b1, 0, none⟩ = some (.pointer (some ⟨p, 0, none⟩))) (h2 : w.cell? ⟨b2, 0, none⟩ = some (.string k)) :
    Calls Try.prog 40 (#[.int .i64 i] ++ #[.pointer (some ⟨b1, 0, none⟩), .pointer (some ⟨b2, 0, none⟩)]) w fun e w' => e = .returned (.bool (!(Dc.lt l[i].1 k))) ∧ ∃ q, w' = w.drewN q := by
  obtain ⟨g, c, rfl⟩ := h.row.addr hi
  have c1 := h.cell1
  have c2 := Row.key h.row hi
  have hlt : (i : Int) < (l.length : Int) := by omega
  unfold Dc.lt
  generalize l[i].1 = y at c2 ⊢
  clear h
  go_enter Try.func40, Try.ntmps40
  go_wp2
  go_quiet (fail)
  all_goals go_wp2
  all_goals go_ret
  all_goals exact ⟨rfl, nq, rfl⟩
theorem Mp.drewN {B : Nat} {w : World} {p : Nat} {v : Value} {l : List Pr} (h : Mp B w p v l) (n : Nat) : Mp B (w.drewN n) p v l := ⟨h.from_, h.own, h.row, h.srt⟩
theorem Mp.alloc {B : Nat} {w : World} {p : Nat} {v : Value} {l : List Pr} (h : Mp B w p v l) (o : Obj) : Mp B (w.alloc o) p v l := h.below ((Below.refl _ w).alloc (Nat.le_refl _) o)
/-- What the closure says of the pairs ahead of k's place, and of the others. -/
theorem says (l A C : List Pr) (k : ByteArray) (hl : l = A ++ C) (hA : ∀ p ∈ A, Dc.lt p.1 k = true) (hC : ∀ p ∈ C, Dc.lt p.1 k = false) (i : Nat) (hi : i < l.length) : (!(Dc.lt l[i].1 k)) = decide (A.length ≤ i) := by
  subst hl
  by_cases h : i < A.length
  · rw [List.getElem_append_left h, hA _ (List.getElem_mem h)]
    simp; omega
  · rw [List.getElem_append_right (by omega), hC _ (List.getElem_mem _)]
    simp; omega
/-- Is the first pair's key k? -/
def headIs (C : List Pr) (k : ByteArray) : Bool := match C with | [] => false | q :: _ => Dc.ke q.1 k
set_option maxHeartbeats 2000000 in
/-- find, but for its last row: the place is A's length. -/
theorem find_at (B p : Nat) (v : Value) (l A C : List Pr) (k : ByteArray) (b : Bool) (w : World) (h : Mp B w p v l) (hl : l.length ≤ 1000000) (hAC : l = A ++ C) (hA : ∀ p ∈ A, Dc.lt p.1 k = true) (hC : ∀ p ∈ C, Dc.lt p.1 k = false)
    (hb : b = headIs C k) :
    Calls Try.prog 33 #[.pointer (some ⟨p, 0, none⟩), .string k] w (Gives (nb A.length b) w) := by
  have hmix : Try.prog.follows .mixedOrders = true := by kernel_rfl
  have hlen : l.length = A.length + C.length := by rw [hAC]; simp
  have HM := Lib.hid (fun (w' : World) (h' : w'.cell? ⟨p, 0, none⟩ = some (.bool true)) => made_any p true w' h')
  obtain ⟨W, hW⟩ : ∃ W, (w.alloc (.cells #[.pointer (some ⟨p, 0, none⟩)] 52)).alloc (.cells #[.string k] 9) = W := ⟨_, rfl⟩
  have hbW : Below w.heap.size w W := by rw [← hW]; exact ((Below.refl _ w).alloc (Nat.le_refl _) _).alloc (by simp) _
  have hm : Mp B W p v l := h.below hbW
  have c0 := hm.cell0
  have c1 := hm.cell1
  have d1 : W.cell? ⟨w.heap.size, 0, none⟩ = some (.pointer (some ⟨p, 0, none⟩)) := by rw [← hW]; simp
  have d2 : W.cell? ⟨w.heap.size + 1, 0, none⟩ = some (.string k) := by rw [← hW]; simp
  have HS := Lib.hid (search_any 40 #[.pointer (some ⟨w.heap.size, 0, none⟩), .pointer (some ⟨w.heap.size + 1, 0, none⟩)] l.length A.length W (by omega) (by omega)
    (fun m i hi => by rw [← says l A C k hAC hA hC i hi]; exact closure_any B p _ _ v l k i (W.drewN m) (hm.drewN m) hi d1 d2) enters26)
  have HB := Lib.hid hbW; clear hbW
  have Hm := Lib.hid hm; clear hm
  have Hh := Lib.hid h; clear h
  have Hlen := Lib.hid hlen; clear hlen
  have HAC := Lib.hid hAC; clear hAC
  have Hb := Lib.hid hb; clear hb
  obtain ⟨va, vc, rfl⟩ := Hm.out.row.lens
  go_enter Try.func33, Try.ntmps33
  go_wp2_with (first | (go_at_call 37; refine (HM.out _ c0).mono ?_; rintro e w' ⟨rfl, rfl⟩) | fail)
  with_reducible refine HS.out.mono ?_
  rintro e w' ⟨rfl, q, rfl⟩
  rcases C with _ | ⟨x, r⟩
  · have hg : decide (A.length < l.length) = false := by have := Hlen.out; simp at this; simp; omega
    go_wp2
    go_quiet (fail)
    all_goals go_wp2
    all_goals go_ret2
    all_goals exact ⟨by rw [Hb.out]; rfl, HB.out.trans ((below_drewNN _ _ _).mono HB.out.size)⟩
  · have hlt : A.length < l.length := by have := Hlen.out; simp at this; omega
    have hg : (decide ((A.length : Int) < (l.length : Int))) = true := by simp; omega
    obtain ⟨g, c, hv⟩ := Hm.out.row.addr hlt
    cases hv
    have ck := Row.key Hm.out.row hlt
    have ex : l[A.length].1 = x.1 := by have := HAC.out; subst this; simp
    rw [ex] at ck
    clear ex
    have hz : (A.length : Int) < (l.length : Int) := by omega
    go_wp2
    go_quiet (fail)
    all_goals go_wp2
    all_goals go_ret2
    all_goals exact ⟨by rw [Hb.out]; rfl, HB.out.trans ((below_drewNN _ _ _).mono HB.out.size)⟩
/-- The key is there. -/
theorem find_some (B p : Nat) (v : Value) (A C : List Pr) (k u : ByteArray) (w : World) (h : Mp B w p v (A ++ (k, u) :: C)) (hl : (A ++ (k, u) :: C).length ≤ 1000000) (m : Dc.Mid k A C) :
    Calls Try.prog 33 #[.pointer (some ⟨p, 0, none⟩), .string k] w (Gives (nb A.length true) w) :=
  find_at B p v _ A ((k, u) :: C) k true w h hl rfl m.1 (fun q hq => by
    rcases List.mem_cons.1 hq with rfl | hq
    · exact Dc.lt_irrefl k
    · exact Dc.lt_asymm (m.2 q hq)) (Dc.ke_refl k).symm
/-- The key is not there. -/
theorem find_none (B p : Nat) (v : Value) (A C : List Pr) (k : ByteArray) (w : World) (h : Mp B w p v (A ++ C)) (hl : (A ++ C).length ≤ 1000000) (m : Dc.Mid k A C) :
    Calls Try.prog 33 #[.pointer (some ⟨p, 0, none⟩), .string k] w (Gives (nb A.length false) w) :=
  find_at B p v _ A C k false w h hl rfl m.1 (fun q hq => Dc.lt_asymm (m.2 q hq)) (by
    cases C with
    | nil => rfl
    | cons q r => exact (Dc.gt_ne (m.2 q (by simp))).symm)
set_option maxHeartbeats 1000000 in
theorem find_not (P : Option Addr) (k : ByteArray) (w : World) (h : Not P w) :
    Calls Try.prog 33 #[.pointer P, .string k] w (Gives (nb 0 false) w) := by
  obtain ⟨W, hW⟩ : ∃ W, (w.alloc (.cells #[.pointer P] 52)).alloc (.cells #[.string k] 9) = W := ⟨_, rfl⟩
  have hbW : Below w.heap.size w W := by rw [← hW]; exact ((Below.refl _ w).alloc (Nat.le_refl _) _).alloc (by simp) _
  have d1 : W.cell? ⟨w.heap.size, 0, none⟩ = some (.pointer P) := by rw [← hW]; simp
  have HM := Lib.hid (h W hbW)
  have HB := Lib.hid hbW; clear hbW h
  go_enter Try.func33, Try.ntmps33
  go_wp2_with (go_at_call 37; refine HM.out.mono ?_; rintro e w' ⟨rfl, rfl⟩)
  go_ret2
  exact ⟨rfl, HB.out⟩
end Go.Proofs.Ytigopifioijjlaa
