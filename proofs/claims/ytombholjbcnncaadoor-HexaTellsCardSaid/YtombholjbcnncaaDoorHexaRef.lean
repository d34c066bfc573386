/-
  The walk of the document's own Parse. By an AI agent.
-/
import Derived.Test.YtombholjbcnncaaDoorHexaParse
import Derived.BigQuiet
import Derived.Deep.QuietTactic
namespace Go.Proofs.YtombholjbcnncaaDoor
open Go.RowKit
theorem draws {B : Nat} {a w : World} (h : Below B a w) (n : Nat) : Below B a (w.drewN n) := h.trans ⟨rfl, rfl, rfl, Nat.le_refl _, fun _ _ => rfl⟩
theorem quiet_of {f : FuncId} {args : Array Value} {w : World} {n : Nat} {v : Value} (h : Calls Tryd.prog f args (w.drewN n) (Same v (w.drewN n))) : Calls Tryd.prog f args (w.drewN n) fun e w'' => e = .returned v ∧ ∃ m, w'' = w.drewN m :=
  h.mono fun _ _ ⟨he, hm⟩ => ⟨he, n, hm.symm⟩
theorem own_below {B : Nat} {t : TypeId} {k : Nat} {v : Value} {n : Nat} {xs : List Value} {w w' : World} (h : w.ownsRow B t k v n xs) (hb : Below w.heap.size w w') : w'.ownsRow B t k v n xs := by
  refine ⟨h.1, ?_⟩
  rcases h.2 with h0 | ⟨g, cap, cur, h1, h2, h3, h4⟩
  · exact .inl h0
  · exact .inr ⟨g, cap, cur, h1, h2, (hb.block g (Array.getElem?_eq_some_iff.1 h3).1).trans h3, h4⟩
set_option maxHeartbeats 1000000 in
theorem rparse_dash (w : World) : Calls Tryd.prog 7 #[.string ⟨#[45]⟩] w (Gives (good2 []) w) := by
  go_enter Tryd.func7, Tryd.ntmps7
  go_wp2
  go_ret2
  exact ⟨rfl, Below.refl _ _⟩
/-- The number that is found up to j. -/
def fnd (P j : Nat) : Int := if P < j then (P : Int) else -1
theorem fnd_zero (P : Nat) : fnd P 0 = -1 := if_neg (by omega)
theorem fnd_hit {P j : Nat} (h : P = j) : fnd P (j + 1) = (j : Int) := by unfold fnd; rw [if_pos (by omega), h]
theorem fnd_miss {P j : Nat} (h : P ≠ j) : fnd P (j + 1) = fnd P j := by
  unfold fnd
  by_cases h' : P < j
  · rw [if_pos h', if_pos (by omega)]
  · rw [if_neg h', if_neg (by omega)]
set_option maxRecDepth 100000 in
set_option maxHeartbeats 4000000 in
theorem rparse_other (s : ByteArray) (w : World) (hs : s.size ≤ 1099511627776) (h1 : (s.toList == [45]) = false)
    (v : Value) (hv : v = good2 (Hx.bytesTo s.data.toList (s.size / 2)) ∧ Hx.Good s.data.toList ∨ v = bad2 ∧ ¬ Hx.Good s.data.toList) :
    Calls Tryd.prog 7 #[.string s] w (Gives v w) := by
  obtain ⟨i0, hi, hz0, hz1, hz2⟩ := info_parts info_u8
  have Hz0 := Lib.hid hz0; clear hz0
  have Hz1 := Lib.hid hz1; clear hz1
  have Hz2 := Lib.hid hz2; clear hz2
  have Hi := Lib.hid hi; clear hi
  have Hv := Lib.hid hv; clear hv
  go_enter Tryd.func7, Tryd.ntmps7
  go_wp2
  go_loopw [4, 5, 6, 7] (fun v i _ _ wr => ∃ k p : Nat, Hid (p = 2 * k) ∧ p ≤ s.size ∧ i = .int .i64 (p : Int) ∧ v ≠ .slice none 0 0 ∧ wr.ownsRow w.heap.size 5 1 v k (vals (Hx.bytesTo s.data.toList k)) ∧ Below w.heap.size w wr ∧ Hid (∀ j, j < p → Hx.nm (Hx.sg s.data.toList j) < 16))
    (fun _ i _ _ _ => s.size - (intOf i).toNat)
  case atStart => exact ⟨0, 0, Lib.hid rfl, by omega, rfl, by simp, World.ownsRow_lit (size := 1) w #[] 0 (Nat.le_refl _) (by decide) (by decide), (Below.refl _ _).alloc (Nat.le_refl _) _, Lib.hid (fun j hj => by omega)⟩
  case round =>
    obtain ⟨k, p, Hp, hp, rfl, hnn, hown, hB, HZ⟩ := hrel
    by_cases hlt : p < s.size
    · by_cases hodd : p + 1 = s.size
      · have f1 : ((p : Int) + 1 == (s.size : Int)) = true := by simp; omega
        have Hodd := Lib.hid hodd; clear hodd
        go_wp2
        go_ret2
        refine ⟨?_, hB⟩
        rcases Hv.out with ⟨-, hg⟩ | ⟨rfl, -⟩
        · have := hg.2.1
          rw [ba_len] at this
          have := Hodd.out
          have := Hp.out
          omega
        · rfl
      · have f1 : ((p : Int) + 1 == (s.size : Int)) = false := by simp; omega
        obtain ⟨p1, hp1⟩ : ∃ p1, p1 = p + 1 := ⟨_, rfl⟩
        have hlt1 : p1 < s.size := by omega
        have Hodd := Lib.hid hodd; clear hodd
        have Hp1 := Lib.hid hp1
        have ha := s[p].toNat_lt
        have hb := s[p1].toNat_lt
        obtain ⟨P, hP⟩ : ∃ P, P = Hx.pr s[p].toNat s[p1].toNat := ⟨_, rfl⟩
        have HP := Lib.hid hP; clear hP
        go_wp2
        go_loopw [6, 7] (fun z i wr2 => ∃ (j : Nat) (y : Int), j ≤ 256 ∧ i = .int .i64 (j : Int) ∧ z = .int .i64 y ∧ Hid (y = fnd P j) ∧ Below wr.heap.size wr wr2)
          (fun _ i _ => 256 - (intOf i).toNat)
        case atStart => exact ⟨0, -1, by omega, rfl, rfl, Lib.hid (fnd_zero P).symm, Below.refl _ _⟩
        case round =>
          obtain ⟨j, y, hj, rfl, rfl, HY, hB2⟩ := hrel
          by_cases hjl : j < 256
          · obtain ⟨e1, e2, e3, e4⟩ := div16 _ hjl
            have e5 : IntKind.i64.wrap ((j / 16 : Nat) : Int) = ((j / 16 : Nat) : Int) := IntWalk.i64_in _ (by constructor <;> omega)
            have e6 : IntKind.i64.wrap ((j % 16 : Nat) : Int) = ((j % 16 : Nat) : Int) := IntWalk.i64_in _ (by constructor <;> omega)
            have e7 : IntKind.i64.wrap ((p : Int) + 1) = (p1 : Int) := (IntWalk.i64_in _ (by constructor <;> omega)).trans (by omega)
            clear hp1
            have hiff := Hx.pr_iff (a := s[p].toNat) (b := s[p1].toNat) hjl
            rw [← HP.out] at hiff
            have D1 := Lib.hid fun (w : World) (n : Nat) => quiet_of (digit_any (j / 16) (w.drewN n) (by omega))
            have D2 := Lib.hid fun (w : World) (n : Nat) => quiet_of (digit_any (j % 16) (w.drewN n) (by omega))
            generalize Hx.dg (j / 16) = dq at D1 hiff
            generalize Hx.dg (j % 16) = dr at D2 hiff
            generalize j / 16 = q at e1 e2 e5 D1
            generalize j % 16 = r at e3 e4 e6 D2
            by_cases c1 : dq = s[p].toNat
            · by_cases c2 : dr = s[p1].toNat
              · have g1 : ((dq : Int) == (s[p].toNat : Int)) = true := by simp [c1]
                have g2 : ((dr : Int) == (s[p1].toNat : Int)) = true := by simp [c2]
                have hit : P = j := hiff.1 ⟨c1, c2⟩
                have HY2 : Hid ((j : Int) = fnd P (j + 1)) := Lib.hid (fnd_hit hit).symm
                clear hiff c1 c2 hit
                go_wp2
                go_quiet ((go_at_call 11; first | with_reducible exact D1.out _ _ | with_reducible exact D2.out _ _))
                go_wp2
                go_roundw
                case rel => exact ⟨j + 1, _, by omega, by go_num, rfl, HY2, draws hB2 nq⟩
                case measure => simp [intOf]; omega
              · have g1 : ((dq : Int) == (s[p].toNat : Int)) = true := by simp [c1]
                have g2 : ((dr : Int) == (s[p1].toNat : Int)) = false := by simp; omega
                have hit : P ≠ j := fun e => c2 (hiff.2 e).2
                have HY2 : Hid (y = fnd P (j + 1)) := Lib.hid (HY.out.trans (fnd_miss hit).symm)
                clear hiff c1 c2 hit
                go_wp2
                go_quiet ((go_at_call 11; first | with_reducible exact D1.out _ _ | with_reducible exact D2.out _ _))
                go_wp2
                go_roundw
                case rel => exact ⟨j + 1, _, by omega, by go_num, rfl, HY2, draws hB2 nq⟩
                case measure => simp [intOf]; omega
            · have g1 : ((dq : Int) == (s[p].toNat : Int)) = false := by simp; omega
              have hit : P ≠ j := fun e => c1 (hiff.2 e).1
              have HY2 : Hid (y = fnd P (j + 1)) := Lib.hid (HY.out.trans (fnd_miss hit).symm)
              clear hiff c1 hit
              go_wp2
              go_quiet ((go_at_call 11; first | with_reducible exact D1.out _ _ | with_reducible exact D2.out _ _))
              go_wp2
              go_roundw
              case rel => exact ⟨j + 1, _, by omega, by go_num, rfl, HY2, draws hB2 nq⟩
              case measure => simp [intOf]; omega
          · obtain rfl : j = 256 := by omega
            have hB3 : Below w.heap.size w wr := hB.trans (hB2.mono hB.size)
            have hown2 := own_below hown hB2
            clear hown hB2 hB
            by_cases hg : Hx.nm (Hx.sg s.data.toList p) < 16 ∧ Hx.nm (Hx.sg s.data.toList (p + 1)) < 16
            · obtain ⟨g1, g2⟩ := hg
              have hPv : P = Hx.nm (Hx.sg s.data.toList p) * 16 + Hx.nm (Hx.sg s.data.toList (p + 1)) := by
                rw [HP.out, ba_sg hlt, ba_sg hlt1, Hp1.out]; exact Hx.pr_good g1 g2
              have hP : P < 256 := by omega
              have hy : y = (P : Int) := by rw [HY.out]; exact if_pos hP
              have hnext : vals (Hx.bytesTo s.data.toList (k + 1)) = vals (Hx.bytesTo s.data.toList k) ++ [.int .u8 (P : Int)] := by
                rw [Hx.bytesTo_succ, vals_app, ← Hp.out, ← hPv]
                simp only [vals, List.map_cons, List.map_nil, UInt8.toNat_ofNat']
                rw [Nat.mod_eq_of_lt hP]
              have Hnext := Lib.hid hnext; clear hnext
              have HZ2 : Hid (∀ j, j < p + 2 → Hx.nm (Hx.sg s.data.toList j) < 16) := Lib.hid (fun j hj => by
                by_cases e : j = p
                · subst e; exact g1
                · by_cases e' : j = p + 1
                  · subst e'; exact g2
                  · exact HZ.out j (by omega))
              have hk : k + 1 ≤ s.size := by have := Hp.out; omega
              clear g1 g2 hPv
              subst hy
              go_wp2_with (at_builtin; refine wpList_append_own _ rfl _ _ 30 rfl w.heap.size 5 i0 (.int .u8 0) 1 1 Tryd.underlying30 Hi.out Hz0.out Hz1.out Hz2.out rfl (by decide) _ _ _ rfl (hown2.alloc _) ⟨_, 0, none⟩ 1 1 [.int .u8 (P : Int)] rfl rfl ?c1 ?c2 ?c3 ?c4 ?c5 ?_)
              try (case c1 => exact cell_one_new _ _ _)
              try (case c2 => simp [Value.oneCell'])
              case c3 => unfold maxLen; omega
              case c4 => omega
              case c5 => have := hB3.size; simp; omega
              intro v' w3 hown' hgrow hnil
              have hnn2 : v' ≠ .slice none 0 0 := hnil
              have hB4 : Below w.heap.size w w3 := (hB3.alloc hB3.size _).grown hgrow (by have := hB3.size; simp; omega) (fun j e => (hown2.lt j e).1)
              have hown3 : w3.ownsRow w.heap.size 5 1 v' (k + 1) (vals (Hx.bytesTo s.data.toList (k + 1))) := by
                rw [Hnext.out]; exact hown'
              clear hown' hgrow hown2 hnil hnn
              go_wp2
              go_roundw
              case rel => exact ⟨k + 1, p + 2, Lib.hid (by have := Hp.out; omega), by omega, by go_num, hnn2, hown3, hB4, HZ2⟩
              case measure => simp [intOf]; omega
            · have hP : P = 256 := by
                rw [HP.out, ba_sg hlt, ba_sg hlt1, Hp1.out]; exact Hx.pr_bad hg
              have hy : y = -1 := by rw [HY.out]; exact if_neg (by omega)
              subst hy
              have Hg := Lib.hid hg; clear hg hP
              go_wp2
              go_ret2
              refine ⟨?_, hB3⟩
              rcases Hv.out with ⟨-, hg⟩ | ⟨rfl, -⟩
              · have h3 := hg.2.2
                rw [ba_len] at h3
                exact absurd ⟨h3 p hlt, h3 (p + 1) (by have := Hp1.out; omega)⟩ Hg.out
              · rfl
    · obtain rfl : p = s.size := by omega
      have C1 := own_conv (n := k) (Hx.bytesTo_len _ _) hnn hown
      rcases hown.2 with ⟨rfl, -⟩ | ⟨g, cap, cur, rfl, -⟩
      · exact absurd rfl hnn
      by_cases hk : k = 0
      · have f1 : ((k : Int) == 0) = true := by simp [hk]
        have Hk := Lib.hid hk; clear hk
        go_wp2
        go_ret2
        refine ⟨?_, hB⟩
        rcases Hv.out with ⟨-, hg⟩ | ⟨rfl, -⟩
        · have h0 := hg.1
          rw [ba_len] at h0
          have := Hp.out
          have := Hk.out
          omega
        · rfl
      · have f1 : ((k : Int) == 0) = false := by simpa using hk
        have Hk := Lib.hid hk; clear hk
        go_wp2
        go_ret2
        refine ⟨?_, hB⟩
        rcases Hv.out with ⟨rfl, -⟩ | ⟨-, hg⟩
        · have := Hp.out
          rw [show s.size / 2 = k by omega]
          rfl
        · refine absurd ⟨?_, ?_, ?_⟩ hg
          · rw [ba_len]; have := Hp.out; have := Hk.out; omega
          · rw [ba_len]; have := Hp.out; omega
          · rw [ba_len]; exact HZ.out
/-- ████ The document's own Parse, of a text of some bytes, and of any other. ████ -/
theorem rparse_text (s : ByteArray) (w : World) (hs : s.size ≤ 1099511627776) (h : Hx.Text s.data.toList) : Calls Tryd.prog 7 #[.string s] w (Gives (good2 (Hx.parse s.data.toList)) w) := by
  rcases h with h | g
  · rw [ba_of h]
    exact rparse_dash w
  · rw [Hx.parse_good g, ba_len]
    refine rparse_other s w hs (toList_ne ?_) _ (.inl ⟨rfl, g⟩)
    intro e
    rw [e] at g
    exact Hx.not_good_dash g
theorem rparse_not (s : ByteArray) (w : World) (hs : s.size ≤ 1099511627776) (h : ¬ Hx.Text s.data.toList) : Calls Tryd.prog 7 #[.string s] w (Gives bad2 w) :=
  rparse_other s w hs (toList_ne fun e => h (.inl e)) _ (.inr ⟨rfl, fun g => h (.inr g)⟩)
end Go.Proofs.YtombholjbcnncaaDoor
