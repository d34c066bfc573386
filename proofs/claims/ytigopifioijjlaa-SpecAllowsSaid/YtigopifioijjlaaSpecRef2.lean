/-
  The walk of the document's own Put, of any list of pairs. By an AI agent.
-/
import Derived.Test.YtigopifioijjlaaSpecRef
set_option linter.unusedSimpArgs false
namespace Go.Proofs.Ytigopifioijjlaa
open Go.RowKit
open Dc (Pr Rpl)
theorem take_gr : ∀ (A C : List Pr) (k : ByteArray), (∀ p ∈ A, Dc.gr k p = false) → (∀ c r, C = c :: r → Dc.gr k c = true) → (A ++ C).takeWhile (fun p => !(Dc.gr k p)) = A ∧ (A ++ C).dropWhile (fun p => !(Dc.gr k p)) = C
  | [], [], _, _, _ => by simp
  | [], c :: C, k, _, h => by
    have := h c C rfl
    simp [this]
  | a :: A, C, k, h1, h2 => by
    have h3 := h1 a (by simp)
    obtain ⟨e1, e2⟩ := take_gr A C k (fun p hp => h1 p (by simp [hp])) h2
    simp [h3, e1, e2]
/-- Nobody of the first k is behind the key; he who comes then is, if there is one. -/
theorem ins_at (rest : List Pr) (k : Nat) (key x : ByteArray) (h1 : ∀ p ∈ rest.take k, Dc.gr key p = false) (h2 : ∀ h : k < rest.length, Dc.gr key rest[k] = true) : Dc.ins rest key x = rest.take k ++ (key, x) :: rest.drop k := by
  have := take_gr (rest.take k) (rest.drop k) key h1 (fun c r e => by
    have hlt : k < rest.length := by
      rcases Nat.lt_or_ge k rest.length with h | h
      · exact h
      · rw [List.drop_eq_nil_of_le h] at e; cases e
    rw [List.drop_eq_getElem_cons hlt] at e
    cases e
    exact h2 hlt)
  rw [List.take_append_drop] at this
  unfold Dc.ins
  rw [this.1, this.2]
/-- What the loop has done at k. -/
def Done (rest out : List Pr) (k : Nat) (key x : ByteArray) (b : Bool) : Prop :=
  (b = false ∧ out = rest.take k ∧ ∀ p ∈ rest.take k, Dc.gr key p = false) ∨ (b = true ∧ out ++ rest.drop k = Dc.ins rest key x)
theorem Done.start (rest : List Pr) (key x : ByteArray) : Done rest [] 0 key x false := .inl ⟨rfl, by simp, by simp⟩
theorem len_ins (rest : List Pr) (key x : ByteArray) : (Dc.ins rest key x).length = rest.length + 1 := by
  have h3 : (rest.takeWhile fun p => !(Dc.gr key p)).length + (rest.dropWhile fun p => !(Dc.gr key p)).length = rest.length := by
    rw [← List.length_append]
    exact congrArg List.length List.takeWhile_append_dropWhile
  unfold Dc.ins
  rw [List.length_append, List.length_cons]
  exact (Nat.add_assoc _ _ _).symm.trans (congrArg (· + 1) h3)
theorem Done.len {rest out : List Pr} {k : Nat} {key x : ByteArray} {b : Bool} (h : Done rest out k key x b) : out.length ≤ rest.length + 1 := by
  rcases h with ⟨_, rfl, _⟩ | ⟨_, h⟩
  · simp; omega
  · have h2 := congrArg List.length h
    rw [List.length_append, len_ins] at h2
    omega
theorem Done.pass {rest out : List Pr} {k : Nat} {key x : ByteArray} (h : Done rest out k key x false) (hk : k < rest.length) (hg : Dc.gr key rest[k] = false) : Done rest (out ++ [rest[k]]) (k + 1) key x false := by
  rcases h with ⟨_, rfl, h⟩ | ⟨h, _⟩
  · refine .inl ⟨rfl, by rw [List.take_append_getElem hk], fun p hp => ?_⟩
    rw [← List.take_append_getElem hk, List.mem_append] at hp
    rcases hp with hp | hp
    · exact h p hp
    · simp at hp; subst hp; exact hg
  · cases h
theorem Done.put {rest out : List Pr} {k : Nat} {key x : ByteArray} (h : Done rest out k key x false) (hk : k < rest.length) (hg : Dc.gr key rest[k] = true) : Done rest (out ++ [(key, x)] ++ [rest[k]]) (k + 1) key x true := by
  rcases h with ⟨_, rfl, h⟩ | ⟨h, _⟩
  · refine .inr ⟨rfl, ?_⟩
    rw [ins_at rest k key x h (fun _ => hg), List.drop_eq_getElem_cons hk]
    simp
  · cases h
theorem Done.on {rest out : List Pr} {k : Nat} {key x : ByteArray} (h : Done rest out k key x true) (hk : k < rest.length) : Done rest (out ++ [rest[k]]) (k + 1) key x true := by
  rcases h with ⟨h, _⟩ | ⟨_, h⟩
  · cases h
  · refine .inr ⟨rfl, ?_⟩
    rw [← h, List.drop_eq_getElem_cons hk]; simp
theorem Done.all {rest out : List Pr} {key x : ByteArray} (h : Done rest out rest.length key x true) : out = Dc.ins rest key x := by
  rcases h with ⟨h, _⟩ | ⟨_, h⟩
  · cases h
  · simpa using h
theorem Done.none {rest out : List Pr} {key x : ByteArray} (h : Done rest out rest.length key x false) : out ++ [(key, x)] = Dc.ins rest key x := by
  rcases h with ⟨_, rfl, h⟩ | ⟨h, _⟩
  · rw [ins_at rest rest.length key x h (fun h => absurd h (Nat.lt_irrefl _))]; simp
  · cases h
set_option maxRecDepth 100000 in
set_option maxHeartbeats 4000000 in
theorem rput_any (v : Value) (l : List Pr) (key x : ByteArray) (w : World) (h : Lst w v l) (hl : l.length ≤ 1000000) :
    Calls Try.prog 23 #[v, .string key, .string x] w (Tells (Dc.put l key x) w) := by
  have HD := Lib.hid (rdel_any v l key w h hl)
  have hdl := Dc.len_del l key
  unfold Dc.put
  generalize Dc.del l key = rest at *
  have hrl : rest.length ≤ 1000000 := by omega
  clear h hdl
  obtain ⟨i0, hi, hz0, hz1, hz2⟩ := info_parts info_api
  have Hz0 := Lib.hid hz0; clear hz0
  have Hz1 := Lib.hid hz1; clear hz1
  have Hz2 := Lib.hid hz2; clear hz2
  have Hi := Lib.hid hi; clear hi
  go_enter Try.func23, Try.ntmps23
  go_wp2_with fail
  with_reducible refine HD.out.mono ?_
  rintro e w1 ⟨v1, rfl, hrow, hB1⟩
  obtain ⟨va, vc, rfl⟩ := hrow.lens
  have HR := Lib.hid hrow; clear hrow
  have r0 := own_mono (World.ownsRow_lit (base := w1.heap.size) (e := 46) (size := 2) w1 #[] 0 (Nat.le_refl _) (by decide) (by decide)) hB1.size
  have hB0 : Below w1.heap.size w1 (w1.alloc (.cells #[] 46)) := (Below.refl _ w1).alloc (Nat.le_refl _) _
  have hf0 : Row w1.heap.size 46 (w1.alloc (.cells #[] 46)) (.slice (some ⟨w1.heap.size, 0, none⟩) 0 0) [] := World.ownsRow_lit (base := w1.heap.size) (e := 46) (size := 2) w1 #[] 0 (Nat.le_refl _) (by decide) (by decide)
  clear r0
  go_wp2
  go_loopw [8, 9, 10] (fun u d i wr => ∃ (k : Nat) (b : Bool) (out : List Pr), k ≤ rest.length ∧ i = .int .i64 k ∧ d = .bool b ∧ Hid (Done rest out k key x b) ∧ Row w1.heap.size 46 wr u out ∧ Below w1.heap.size w1 wr) (fun _ _ i _ => rest.length - (intOf i).toNat)
  case atStart => exact ⟨0, false, [], by omega, rfl, rfl, Lib.hid (Done.start rest key x), hf0, hB0⟩
  case round =>
    obtain ⟨k, b, out, hk, rfl, rfl, HDn, hown, hB⟩ := hrel
    clear hf0 hB0
    have hlen := HDn.out.len
    have HO := Lib.hid (Row.raw hown); clear hown
    by_cases hlt : k < rest.length
    · have hr := own_below HR.out hB (Nat.le_refl _)
      obtain ⟨g, c, hv⟩ := Row.addr hr hlt
      cases hv
      have d1 := Row.key hr hlt
      have d2 := Row.val hr hlt
      have hltZ : (k : Int) < (rest.length : Int) := by omega
      clear hr
      cases b
      · cases hg : Dc.gr key rest[k]
        · have hg' : (!(Op.bytesLess rest[k].1.toList key.toList || rest[k].1.toList == key.toList)) = false := hg
          have HN := Lib.hid (HDn.out.pass hlt hg); clear hg
          go_wp2_with (at_builtin; refine wpList_append_own _ rfl _ _ 24 rfl w1.heap.size 46 i0 (.agg #[.string ⟨#[]⟩, .string ⟨#[]⟩]) 2 32 Try.underlying24 Hi.out Hz0.out Hz1.out Hz2.out rfl (by decide) _ _ _ rfl (HO.out.alloc _) ⟨_, 0, none⟩ 1 1 [.string rest[k].1, .string rest[k].2] rfl rfl ?c1 ?c2 ?c3 ?c4 ?c5 ?_)
          case c1 => exact cell_two_new _ _ _ _
          case c2 => simp [Value.oneCell']
          case c3 => unfold maxLen; omega
          case c4 => omega
          case c5 => have := hB.size; simp; omega
          intro v3 w3 hown3 hgrow3 _
          have hB3 : Below w1.heap.size w1 w3 := (hB.alloc hB.size _).grown hgrow3 (by have := hB.size; simp; omega) (fun j e => (HO.out.lt j e).1)
          go_wp2
          go_roundw
          case rel => exact ⟨k + 1, false, out ++ [rest[k]], by omega, by go_num, rfl, HN, by simpa [Row, enc_append, enc] using hown3, hB3⟩
          case measure => simp [intOf]; omega
        · have hg' : (!(Op.bytesLess rest[k].1.toList key.toList || rest[k].1.toList == key.toList)) = true := hg
          have HN := Lib.hid (HDn.out.put hlt hg); clear hg
          go_wp2_with (at_builtin; refine wpList_append_own _ rfl _ _ 24 rfl w1.heap.size 46 i0 (.agg #[.string ⟨#[]⟩, .string ⟨#[]⟩]) 2 32 Try.underlying24 Hi.out Hz0.out Hz1.out Hz2.out rfl (by decide) _ _ _ rfl (HO.out.alloc _) ⟨_, 0, none⟩ 1 1 [.string key, .string x] rfl rfl ?c1 ?c2 ?c3 ?c4 ?c5 ?_)
          case c1 => exact cell_two_new _ _ _ _
          case c2 => simp [Value.oneCell']
          case c3 => unfold maxLen; omega
          case c4 => omega
          case c5 => have := hB.size; simp; omega
          intro v3 w3 hown3 hgrow3 _
          have hB3 : Below w1.heap.size w1 w3 := (hB.alloc hB.size _).grown hgrow3 (by have := hB.size; simp; omega) (fun j e => (HO.out.lt j e).1)
          have hr := own_below HR.out hB3 (Nat.le_refl _)
          have d3 := Row.key hr hlt
          have d4 := Row.val hr hlt
          clear hr d1 d2
          have HO3 := Lib.hid hown3; clear hown3
          go_wp2_with (at_builtin; refine wpList_append_own _ rfl _ _ 24 rfl w1.heap.size 46 i0 (.agg #[.string ⟨#[]⟩, .string ⟨#[]⟩]) 2 32 Try.underlying24 Hi.out Hz0.out Hz1.out Hz2.out rfl (by decide) _ _ _ rfl (HO3.out.alloc _) ⟨_, 0, none⟩ 1 1 [.string rest[k].1, .string rest[k].2] rfl rfl ?c1 ?c2 ?c3 ?c4 ?c5 ?_)
          case c1 => exact cell_two_new _ _ _ _
          case c2 => simp [Value.oneCell']
          case c3 => unfold maxLen; omega
          case c4 => omega
          case c5 => have := hB3.size; simp; omega
          intro v4 w4 hown4 hgrow4 _
          have hB4 : Below w1.heap.size w1 w4 := (hB3.alloc hB3.size _).grown hgrow4 (by have := hB3.size; simp; omega) (fun j e => (HO3.out.lt j e).1)
          go_wp2
          go_roundw
          case rel => exact ⟨k + 1, true, out ++ [(key, x)] ++ [rest[k]], by omega, by go_num, rfl, HN, by simpa [Row, enc_append, enc] using hown4, hB4⟩
          case measure => simp [intOf]; omega
      · have HN := Lib.hid (HDn.out.on hlt)
        go_wp2_with (at_builtin; refine wpList_append_own _ rfl _ _ 24 rfl w1.heap.size 46 i0 (.agg #[.string ⟨#[]⟩, .string ⟨#[]⟩]) 2 32 Try.underlying24 Hi.out Hz0.out Hz1.out Hz2.out rfl (by decide) _ _ _ rfl (HO.out.alloc _) ⟨_, 0, none⟩ 1 1 [.string rest[k].1, .string rest[k].2] rfl rfl ?c1 ?c2 ?c3 ?c4 ?c5 ?_)
        case c1 => exact cell_two_new _ _ _ _
        case c2 => simp [Value.oneCell']
        case c3 => unfold maxLen; omega
        case c4 => omega
        case c5 => have := hB.size; simp; omega
        intro v' w3 hown' hgrow _
        have hB3 : Below w1.heap.size w1 w3 := (hB.alloc hB.size _).grown hgrow (by have := hB.size; simp; omega) (fun j e => (HO.out.lt j e).1)
        go_wp2
        go_roundw
        case rel => exact ⟨k + 1, true, out ++ [rest[k]], by omega, by go_num, rfl, HN, by simpa [Row, enc_append, enc] using hown', hB3⟩
        case measure => simp [intOf]; omega
    · obtain rfl : k = rest.length := by omega
      cases b
      · go_wp2_with (at_builtin; refine wpList_append_own _ rfl _ _ 24 rfl w1.heap.size 46 i0 (.agg #[.string ⟨#[]⟩, .string ⟨#[]⟩]) 2 32 Try.underlying24 Hi.out Hz0.out Hz1.out Hz2.out rfl (by decide) _ _ _ rfl (HO.out.alloc _) ⟨_, 0, none⟩ 1 1 [.string key, .string x] rfl rfl ?c1 ?c2 ?c3 ?c4 ?c5 ?_)
        case c1 => exact cell_two_new _ _ _ _
        case c2 => simp [Value.oneCell']
        case c3 => unfold maxLen; omega
        case c4 => omega
        case c5 => have := hB.size; simp; omega
        intro v3 w3 hown3 hgrow3 _
        have hB3 : Below w1.heap.size w1 w3 := (hB.alloc hB.size _).grown hgrow3 (by have := hB.size; simp; omega) (fun j e => (HO.out.lt j e).1)
        go_wp2
        go_ret
        have := HDn.out.none
        refine ⟨_, rfl, ?_, hB1.trans (hB3.mono hB1.size)⟩
        rw [← this]
        refine own_mono ?_ hB1.size
        simpa [Row, enc_append, enc] using hown3
      · go_wp2
        go_ret
        have := HDn.out.all
        subst this
        exact ⟨_, rfl, own_mono HO.out hB1.size, hB1.trans (hB.mono hB1.size)⟩
end Go.Proofs.Ytigopifioijjlaa
