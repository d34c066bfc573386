/-
  How a map lies in memory; what a change of one map leaves alone; the walks of New, isMade and none. By an AI agent.
-/
import Derived.Test.YtigopifioijjlaaChecked
import Derived.Test.YtigopifioijjlaaDictMath
import Derived.WalkKit
import Derived.WalkSpells
import Derived.WalkLawsBesides
import Derived.WalkMore
import Derived.WalkSmall
import Derived.Below
import Derived.Lib.Hide
import Derived.IntWalk
import Derived.OwnWalk
import Derived.Laws.OwnMore
import Derived.Laws.Cover1
import Derived.Maps.AppendAt
namespace Go.Proofs.Ytigopifioijjlaa
open Go.RowKit
open Dc (Pr)
def Same (v : Value) (w : World) (e : Ending) (w' : World) : Prop := e = .returned v ∧ w = w'
def Gives (v : Value) (w : World) (e : Ending) (w' : World) : Prop := e = .returned v ∧ Below w.heap.size w w'
/-- The cells of pairs that lie in a row. -/
def enc : List Pr → List Value
  | [] => []
  | p :: r => .string p.1 :: .string p.2 :: enc r
theorem enc_len : ∀ l : List Pr, (enc l).length = l.length * 2
  | [] => rfl
  | _ :: r => by simp [enc, enc_len r]; omega
theorem enc_append : ∀ l m : List Pr, enc (l ++ m) = enc l ++ enc m
  | [], _ => rfl
  | p :: r, m => by simp [enc, enc_append r m]
theorem enc_key : ∀ (l : List Pr) (k : Nat) (h : k < l.length), (enc l)[2 * k]? = some (.string l[k].1)
  | p :: r, 0, _ => rfl
  | p :: r, k + 1, h => by
    have := enc_key r k (by simpa using h)
    rw [show 2 * (k + 1) = 2 * k + 1 + 1 by omega]
    simpa [enc] using this
theorem enc_val : ∀ (l : List Pr) (k : Nat) (h : k < l.length), (enc l)[2 * k + 1]? = some (.string l[k].2)
  | p :: r, 0, _ => rfl
  | p :: r, k + 1, h => by
    have := enc_val r k (by simpa using h)
    rw [show 2 * (k + 1) + 1 = 2 * k + 1 + 1 + 1 by omega]
    simpa [enc] using this
theorem enc_one : ∀ (l : List Pr) (u : Value), u ∈ enc l → u.oneCell' = true
  | p :: r, u, h => by
    simp only [enc, List.mem_cons] at h
    rcases h with rfl | rfl | h
    · rfl
    · rfl
    · exact enc_one r u h
/-- A row of pairs, of the element type t, that the call has made. -/
def Row (B : Nat) (t : TypeId) (w : World) (v : Value) (l : List Pr) : Prop := w.ownsRow B t 2 v l.length (enc l)
/-- A map that New made: its own block, and its row. -/
structure Mp (B : Nat) (w : World) (p : Nat) (v : Value) (l : List Pr) : Prop where
  from_ : B ≤ p
  own : w.heap[p]? = some (.cells #[.bool true, v] 67 (0, 0))
  row : Row B 64 w v l
  srt : Dc.Srt l
theorem Mp.lt {B : Nat} {w : World} {p : Nat} {v : Value} {l : List Pr} (h : Mp B w p v l) : p < w.heap.size := (Array.getElem?_eq_some_iff.1 h.own).1
theorem Mp.cell0 {B : Nat} {w : World} {p : Nat} {v : Value} {l : List Pr} (h : Mp B w p v l) : w.cell? ⟨p, 0, none⟩ = some (.bool true) := by simp [World.cell?, h.own]
theorem Mp.cell1 {B : Nat} {w : World} {p : Nat} {v : Value} {l : List Pr} (h : Mp B w p v l) : w.cell? ⟨p, 1, none⟩ = some v := by simp [World.cell?, h.own]
theorem Mp.frozen1 {B : Nat} {w : World} {p : Nat} {v : Value} {l : List Pr} (h : Mp B w p v l) : w.frozen? ⟨p, 1, none⟩ = false := by simp [World.frozen?, h.own]
theorem own_block {w : World} {base : Nat} {e : TypeId} {size : Nat} {v : Value} {n : Nat} {xs : List Value} (h : w.ownsRow base e size v n xs) (k : Nat) (hk : v.ownBlock = some k) : ∃ cur, w.heap[k]? = some (.cells cur e (0, 0)) := by
  rcases h.2 with ⟨rfl, _⟩ | ⟨g, cap, cur, rfl, _, hg, _⟩
  · cases hk
  · cases hk; exact ⟨cur, hg⟩
/-- A block of another type is no row's. -/
theorem own_ne {w : World} {base : Nat} {e t : TypeId} {size : Nat} {v : Value} {n : Nat} {xs : List Value} (h : w.ownsRow base e size v n xs) {k : Nat} {c : Array Value} {z : Nat × Nat} (hk : w.heap[k]? = some (.cells c t z)) (hte : t ≠ e) : v.ownBlock ≠ some k := by
  intro e1
  obtain ⟨cur, h2⟩ := own_block h k e1
  rw [hk] at h2
  simp only [Option.some.injEq, Obj.cells.injEq] at h2
  exact hte h2.2.1
/-- A row outlives what leaves its block alone. -/
theorem own_keep {w w' : World} {base : Nat} {e : TypeId} {size : Nat} {v : Value} {n : Nat} {xs : List Value} (h : w.ownsRow base e size v n xs) (hk : ∀ k, v.ownBlock = some k → w'.heap[k]? = w.heap[k]?) : w'.ownsRow base e size v n xs := by
  refine ⟨h.1, ?_⟩
  rcases h.2 with hn | ⟨g, cap, cur, rfl, hb, hgg, rest⟩
  · exact .inl hn
  · exact .inr ⟨g, cap, cur, rfl, hb, (hk g rfl).trans hgg, rest⟩
theorem own_below {w w' : World} {B base : Nat} {e : TypeId} {size : Nat} {v : Value} {n : Nat} {xs : List Value} (h : w.ownsRow base e size v n xs) (hb : Below B w w') (hB : w.heap.size ≤ B) : w'.ownsRow base e size v n xs :=
  own_keep h fun k hk => hb.block k (Nat.lt_of_lt_of_le (h.lt k hk).2 hB)
theorem own_mono {w : World} {B base : Nat} {e : TypeId} {size : Nat} {v : Value} {n : Nat} {xs : List Value} (h : w.ownsRow base e size v n xs) (hB : B ≤ base) : w.ownsRow B e size v n xs := by
  refine ⟨h.1, ?_⟩
  rcases h.2 with hn | ⟨g, cap, cur, rfl, hb, r⟩
  · exact .inl hn
  · exact .inr ⟨g, cap, cur, rfl, by omega, r⟩
theorem Mp.below {B : Nat} {w w' : World} {p : Nat} {v : Value} {l : List Pr} (h : Mp B w p v l) (hb : Below w.heap.size w w') : Mp B w' p v l :=
  ⟨h.from_, (hb.block p h.lt).trans h.own, own_below h.row hb (Nat.le_refl _), h.srt⟩
theorem Mp.mono {B B' : Nat} {w : World} {p : Nat} {v : Value} {l : List Pr} (h : Mp B w p v l) (hb : B' ≤ B) : Mp B' w p v l :=
  ⟨by have := h.from_; omega, h.own, own_mono h.row hb, h.srt⟩
/-- What a change of the map at p, whose row was v's and is v''s, leaves alone. -/
structure Sp (p : Nat) (v v' : Value) (w w' : World) : Prop where
  os : w'.os = w.os
  tape : w'.tape = w.tape
  output : w'.output = w.output
  size : w.heap.size ≤ w'.heap.size
  block : ∀ k, k < w.heap.size → k ≠ p → v.ownBlock ≠ some k → w'.heap[k]? = w.heap[k]?
  row : ∀ k, v'.ownBlock = some k → v.ownBlock = some k ∨ w.heap.size ≤ k
theorem Sp.below {p B : Nat} {v v' : Value} {w w' : World} {l : List Pr} (h : Sp p v v' w w') (hm : Mp B w p v l) : Below B w w' :=
  ⟨h.os, h.tape, h.output, h.size, fun k hk => h.block k (by have := hm.from_; have := hm.lt; omega) (by have := hm.from_; omega) (fun e => by have := (hm.row.lt k e).1; omega)⟩
theorem Sp.of_below {p : Nat} {v : Value} {w w' : World} (h : Below w.heap.size w w') : Sp p v v w w' :=
  ⟨h.os, h.tape, h.output, h.size, fun k hk _ _ => h.block k hk, fun _ hk => .inl hk⟩
theorem Sp.pre {p : Nat} {v v' : Value} {w w1 w' : World} (hb : Below w.heap.size w w1) (h : Sp p v v' w1 w') : Sp p v v' w w' :=
  ⟨h.os.trans hb.os, h.tape.trans hb.tape, h.output.trans hb.output, Nat.le_trans hb.size h.size, fun k hk h1 h2 => (h.block k (Nat.lt_of_lt_of_le hk hb.size) h1 h2).trans (hb.block k hk), fun k hk => by
    rcases h.row k hk with h1 | h1
    · exact .inl h1
    · exact .inr (Nat.le_trans hb.size h1)⟩
/-- Another map, whose row is another one. -/
theorem Sp.other {p q B C : Nat} {v v' u : Value} {w w' : World} {l m : List Pr} (h : Sp p v v' w w') (hp : Mp B w p v l) (hq : Mp C w q u m) (hpq : p ≠ q) (hvu : ∀ k, u.ownBlock = some k → v.ownBlock ≠ some k) : Mp C w' q u m := by
  refine ⟨hq.from_, (h.block q hq.lt (fun e => hpq e.symm) (own_ne hp.row hq.own (by decide))).trans hq.own, own_keep hq.row fun k hk => ?_, hq.srt⟩
  exact h.block k (hq.row.lt k hk).2 (fun e => own_ne hq.row hp.own (by decide) (e ▸ hk)) (hvu k hk)
/-- A row of another type. -/
theorem Sp.list {p B C : Nat} {v v' u : Value} {w w' : World} {l m : List Pr} {t : TypeId} (h : Sp p v v' w w') (hp : Mp B w p v l) (hq : Row C t w u m) (h1 : t ≠ 64) (h2 : t ≠ 67) : Row C t w' u m := by
  refine own_keep hq fun k hk => ?_
  obtain ⟨cur, hc⟩ := own_block hq k hk
  exact h.block k (hq.lt k hk).2 (fun e => own_ne hq hp.own (fun e => h2 e.symm) (e ▸ hk)) (own_ne hp.row hc h1)
set_option maxHeartbeats 1000000 in
theorem new_any (w : World) : Calls Try.prog 31 #[] w fun e w' => e = .returned (.pointer (some ⟨w.heap.size, 0, none⟩)) ∧ w.alloc (.cells #[.bool true, .slice none 0 0] 67) = w' := by
  go_enter Try.func31, Try.ntmps31
  go_wp2
  go_ret
  exact ⟨rfl, rfl⟩
theorem Mp.new (w : World) : Mp w.heap.size (w.alloc (.cells #[.bool true, .slice none 0 0] 67)) w.heap.size (.slice none 0 0) [] :=
  ⟨Nat.le_refl _, heap_alloc_new w _, World.ownsRow_nil _ _ _ _, Dc.srt_nil⟩
set_option maxHeartbeats 1000000 in
theorem made_any (p : Nat) (b : Bool) (w : World) (h : w.cell? ⟨p, 0, none⟩ = some (.bool b)) : Calls Try.prog 37 #[.pointer (some ⟨p, 0, none⟩)] w (Same (.bool b) w) := by
  go_enter Try.func37, Try.ntmps37
  go_wp2
  go_ret
  exact ⟨rfl, rfl⟩
set_option maxHeartbeats 1000000 in
theorem made_nil (w : World) : Calls Try.prog 37 #[.pointer none] w (Same (.bool false) w) := by
  go_enter Try.func37, Try.ntmps37
  go_wp2
  go_ret
  exact ⟨rfl, rfl⟩
/-- What answers tell: a text and a bool; a place and a bool. -/
def sb (s : ByteArray) (b : Bool) : Value := .tuple #[.string s, .bool b]
def nb (k : Nat) (b : Bool) : Value := .tuple #[.int .i64 (k : Int), .bool b]
set_option maxHeartbeats 1000000 in
theorem none_any (w : World) : Calls Try.prog 34 #[] w (Same (sb ⟨#[]⟩ false) w) := by
  go_enter Try.func34, Try.ntmps34
  go_wp2
  go_ret2
  exact ⟨rfl, rfl⟩
theorem Row.lens {B : Nat} {t : TypeId} {w : World} {v : Value} {l : List Pr} (h : Row B t w v l) : ∃ a c, v = .slice a l.length c := by
  rcases h.2 with ⟨rfl, h0⟩ | ⟨g, cap, cur, rfl, _⟩
  · exact ⟨none, 0, by rw [h0]⟩
  · exact ⟨_, cap, rfl⟩
/-- A map that New did not make, or none. -/
def Not (P : Option Addr) (w : World) : Prop := ∀ w', Below w.heap.size w w' → Calls Try.prog 37 #[.pointer P] w' (Same (.bool false) w')
theorem Not.nil (w : World) : Not none w := fun w' _ => made_nil w'
theorem Not.zero {w : World} {z : Nat} (h : w.cell? ⟨z, 0, none⟩ = some (.bool false)) : Not (some ⟨z, 0, none⟩) w :=
  fun w' hb => made_any z false w' ((hb.cell (p := ⟨z, 0, none⟩) (World.block_lt_of_cell? _ _ h)).trans h)
theorem Not.below {P : Option Addr} {w w' : World} (h : Not P w) (hb : Below w.heap.size w w') : Not P w' := fun w2 h2 => h w2 (hb.trans (h2.mono hb.size))
end Go.Proofs.Ytigopifioijjlaa
