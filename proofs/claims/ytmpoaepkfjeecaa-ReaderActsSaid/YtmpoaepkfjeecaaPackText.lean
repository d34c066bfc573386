/-
  The walk of Text. By an AI agent.
-/
import Derived.Test.YtmpoaepkfjeecaaPackBytes
import Derived.Laws.BytesArg
namespace Go.Proofs.Ytmpoaepkfjeecaa
open Go.RowKit
def none2 : Value := .tuple #[.string ⟨#[]⟩, .bool false]
def some2 (bs : List UInt8) : Value := .tuple #[.string ⟨bs.toArray⟩, .bool true]
set_option maxHeartbeats 1000000 in
theorem text_below (l : List Int) (A : Option Addr) (c : Nat) (n : Int) (w : World) (h : n < 0) : Calls Try.prog 48 #[.slice A l.length c, .int .i64 n] w (Gives none2 w) := by
  go_enter Try.func48, Try.ntmps48
  go_wp2
  go_ret2
  exact ⟨rfl, Below.refl _ _⟩
set_option maxHeartbeats 1000000 in
theorem text_unlike (l : List Int) (A : Option Addr) (c : Nat) (n : Int) (w : World) (h : 0 ≤ n) (h1 : n ≤ 9223372036854775807) (hm : ¬ Pk.many n = l.length) : Calls Try.prog 48 #[.slice A l.length c, .int .i64 n] w (Gives none2 w) := by
  have h' : ¬ n < 0 := by omega
  have M := fun w => many_any n w (by omega) h1
  have hne : (Pk.many n != (l.length : Int)) = true := by simpa using hm
  generalize Pk.many n = m at M hne
  have HM := Lib.hid M; clear M
  clear hm
  go_enter Try.func48, Try.ntmps48
  go_wp2_with fail
  with_reducible refine (HM.out _).mono ?_
  rintro e w1 ⟨rfl, rfl⟩
  go_wp2
  go_ret2
  exact ⟨rfl, Below.refl _ _⟩
/-- The bytes behind the n-th one, asked. -/
theorem tail_any (l : List Int) (n g off cc : Nat) (w : World) (hl : l.length ≤ 1099511627776) (hn : n ≤ 8 * l.length) (hg : g < w.heap.size) (ho : off = n ∨ 8 * l.length ≤ n)
    (hc : ∀ j (h : j < (Pk.rawTo l (8 * l.length)).length), w.cell? ⟨g, j, none⟩ = some (.int .u8 (Pk.rawTo l (8 * l.length))[j])) (t : Bool) (ht : t = true ↔ Pk.Still l n) :
    Calls Try.prog 59 #[.slice (some ⟨g, off, none⟩) (8 * l.length - n) cc] w (Same (.bool t) w) := by
  have hlen : ((Pk.rawTo l (8 * l.length)).drop n).length = 8 * l.length - n := by rw [List.length_drop, Pk.rawTo_len]
  have hz := zero_any ((Pk.rawTo l (8 * l.length)).drop n) (some ⟨g, off, none⟩) cc w (by rw [hlen]; omega) (by
    rcases ho with rfl | ho
    · refine .inr ⟨g, off, rfl, hg, fun j hj => ?_⟩
      rw [hc (off + j) (by rw [Pk.rawTo_len]; omega)]
      simp
    · exact .inl (List.drop_eq_nil_of_le (by rw [Pk.rawTo_len]; exact ho)))
  rw [hlen] at hz
  refine hz.mono ?_
  rintro e w' ⟨t', rfl, ht', rfl⟩
  have hs : (∀ j (h : j < ((Pk.rawTo l (8 * l.length)).drop n).length), ((Pk.rawTo l (8 * l.length)).drop n)[j] = 0) ↔ Pk.Still l n := by
    constructor
    · intro h j h1 h2
      have := h (j - n) (by omega)
      rw [List.getElem_drop, Pk.rawTo_get] at this
      rwa [show n + (j - n) = j by omega] at this
    · intro h j hj
      rw [List.getElem_drop, Pk.rawTo_get]
      exact h _ (by omega) (by omega)
  have e : t' = t := by
    have : t' = true ↔ t = true := (ht'.trans hs).trans ht.symm
    exact Bool.eq_iff_iff.2 this
  rw [e]
  exact ⟨rfl, rfl⟩
/-- The text of the first n bytes. -/
theorem conv_any (l : List Int) (n m g cc : Nat) (w : World) (hn : n ≤ m)
    (hc : ∀ j (h : j < (Pk.rawTo l m).length), w.cell? ⟨g, j, none⟩ = some (.int .u8 (Pk.rawTo l m)[j])) :
    (convert 88 9 (.slice (some ⟨g, 0, none⟩) n cc)).run Try.prog w = .ok (.string ⟨(Pk.txt l n).toArray⟩) w := by
  have h := run_convert_bytes_back (P := Try.prog) w 88 9 5 ⟨g, 0, none⟩ cc (Pk.txt l n) Try.underlying88 Try.underlying5 Try.underlying9 (fun j hj => by
    rw [Pk.txt_len] at hj
    have b := Pk.by1_bd l j
    rw [Pk.txt_get, Pk.b8_val b.1 b.2]
    have := hc j (by rw [Pk.rawTo_len]; omega)
    rw [Pk.rawTo_get] at this
    have hadd : (⟨g, 0, none⟩ : Addr).add j = ⟨g, j, none⟩ := by unfold Addr.add; split <;> simp_all
    rw [hadd]; exact this)
  rwa [Pk.txt_len] at h
set_option maxRecDepth 100000 in
set_option maxHeartbeats 2000000 in
theorem text_like (l : List Int) (A : Option Addr) (c : Nat) (n : Nat) (w : World) (hl : l.length ≤ 1099511627776) (hm : Pk.many n = l.length) (hx : ∀ x ∈ l, 0 ≤ x ∧ x ≤ 18446744073709551615) (h : Sl .u64 w w.heap.size A l)
    (t : Bool) (ht : t = true ↔ Pk.Still l n) :
    Calls Try.prog 48 #[.slice A l.length c, .int .i64 n] w (Gives (if t then some2 (Pk.txt l n) else none2) w) := by
  have hbd := Pk.many_bd (n := n)
  have hn8 : n ≤ 8 * l.length := by omega
  have hn63 : (n : Int) ≤ 9223372036854775807 := by omega
  have M := fun w => many_any n w (by omega) hn63
  have R := fun w h => bytesOf_any l A c w hl hx h
  have HR := Lib.hid R; clear R
  have hne : (Pk.many n != (l.length : Int)) = false := by simpa using hm
  clear hbd hm hx
  generalize Pk.many n = m at M hne
  have HM := Lib.hid M; clear M
  have Ht := Lib.hid ht; clear ht
  obtain ⟨v, hv⟩ : ∃ v, v = (if t then some2 (Pk.txt l n) else none2) := ⟨_, rfl⟩
  rw [← hv]
  have Hv := Lib.hid hv; clear hv
  go_enter Try.func48, Try.ntmps48
  go_wp2_with fail
  with_reducible refine (HM.out _).mono ?_
  rintro e w1 ⟨rfl, rfl⟩
  go_wp2_with fail
  with_reducible refine (HR.out _ h).mono ?_
  rintro e w1 ⟨g, cap, rfl, hg, hlc, hcm, hcell, hB⟩
  rw [Pk.rawTo_len] at hlc ⊢
  have Z : ∀ off cc, (off = n ∨ 8 * l.length ≤ n) → Calls Try.prog 59 #[.slice (some ⟨g, off, none⟩) (8 * l.length - n) cc] w1 (Same (.bool t) w1) := fun off cc ho => tail_any l n g off cc w1 hl hn8 hg ho hcell t Ht.out
  have C := fun cc => conv_any l n (8 * l.length) g cc w1 hn8 hcell
  have HZ := Lib.hid Z; clear Z
  clear hcell
  cases t
  all_goals
    go_wp2_with fail
    all_goals
      with_reducible refine (HZ.out _ _ (by omega)).mono ?_
      rintro e w2 ⟨rfl, rfl⟩
      go_wp2
  all_goals
    go_ret2
    exact ⟨by rw [Hv.out]; rfl, hB⟩
theorem text_good (l : List Int) (A : Option Addr) (c : Nat) (n : Int) (w : World) (hl : l.length ≤ 1099511627776) (hx : ∀ x ∈ l, 0 ≤ x ∧ x ≤ 18446744073709551615) (h : Sl .u64 w w.heap.size A l) (hg : Pk.Good l n) :
    Calls Try.prog 48 #[.slice A l.length c, .int .i64 n] w (Gives (some2 (Pk.txt l n.toNat)) w) := by
  obtain ⟨h0, hm, hs⟩ := hg
  obtain ⟨k, rfl⟩ := Int.eq_ofNat_of_zero_le h0
  exact text_like l A c k w hl hm hx h true ⟨fun _ => hs, fun _ => rfl⟩
theorem text_bad (l : List Int) (A : Option Addr) (c : Nat) (n : Int) (w : World) (hl : l.length ≤ 1099511627776) (hx : ∀ x ∈ l, 0 ≤ x ∧ x ≤ 18446744073709551615) (h : Sl .u64 w w.heap.size A l) (hn : n ≤ 9223372036854775807) (hg : ¬ Pk.Good l n) :
    Calls Try.prog 48 #[.slice A l.length c, .int .i64 n] w (Gives none2 w) := by
  by_cases h0 : n < 0
  · exact text_below l A c n w h0
  · by_cases hm : Pk.many n = l.length
    · obtain ⟨k, rfl⟩ := Int.eq_ofNat_of_zero_le (a := n) (by omega)
      exact text_like l A c k w hl hm hx h false ⟨fun e => (by cases e), fun hs => absurd ⟨by omega, hm, hs⟩ hg⟩
    · exact text_unlike l A c n w (by omega) hn hm
end Go.Proofs.Ytmpoaepkfjeecaa
