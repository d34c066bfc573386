/-
  The walks of slices.Sort, slices.Sorted and Blocks: the numbers of the blocks that are there, rising, in a new row. By an AI agent.
-/
import Derived.Test.YthldjdkjgiebaaaArenaColl
import Derived.Test.YthldjdkjgiebaaaSortPdq
set_option linter.unusedSimpArgs false
namespace Go.Proofs.Ythldjdkjgiebaaa
open Go.RowKit Go.Maps
open Mm (Mem Blk)
/-- The words of a row, as an array of numbers. -/
def arr (ss : List Nat) : Array Int := (ss.map (fun x : Nat => (x : Int))).toArray
theorem arr_size (ss : List Nat) : (arr ss).size = ss.length := by simp [arr]
theorem arr_cells (ss : List Nat) : (arr ss).toList.map (Value.int .u64) = us ss := by simp [arr, us, ku, Function.comp_def]
/-- What is sorted is a permutation, and rises. -/
theorem sorted_list {ss : List Nat} {d : Array Int} (hp : Go.Sort.PermIn 0 ss.length (arr ss) d) (hs : Go.Sort.SortedIn Go.Sort.ltInt 0 ss.length d) : ∃ ts : List Nat, d = arr ts ∧ ts.Perm ss ∧ ts.Pairwise (· ≤ ·) := by
  have hsz : d.size = ss.length := hp.1.trans (arr_size ss)
  have hperm : d.toList.Perm (arr ss).toList := by
    have := hp.2.2
    rw [Array.extract_eq_self_of_le (by omega), Array.extract_eq_self_of_le (by rw [arr_size]; omega)] at this
    exact this
  have hnn : ∀ x ∈ d.toList, ∃ n : Nat, x = (n : Int) := fun x hx => by
    have := hperm.mem_iff.1 hx
    simp [arr] at this
    obtain ⟨n, _, rfl⟩ := this
    exact ⟨n, rfl⟩
  have hd : d = arr (d.toList.map Int.toNat) := by
    apply Array.ext'
    simp only [arr, List.map_map]
    rw [show d.toList.map ((fun x : Nat => (x : Int)) ∘ Int.toNat) = d.toList.map id from List.map_congr_left fun x hx => by obtain ⟨n, rfl⟩ := hnn x hx; simp]
    simp
  refine ⟨d.toList.map Int.toNat, hd, ?_, ?_⟩
  · have h1 := hperm.map Int.toNat
    simpa [arr, Function.comp_def] using h1
  · rw [List.pairwise_iff_getElem]
    intro i j hi hj hij
    simp at hi hj
    have := hs i j (by omega) hij (by omega)
    rw [getElem!_pos d i (by omega), getElem!_pos d j (by omega)] at this
    simp [Go.Sort.ltInt] at this
    obtain ⟨n, e1⟩ := hnn d[i] (by simp)
    obtain ⟨m, e2⟩ := hnn d[j] (by simp)
    simp only [List.getElem_map, Array.getElem_toList]
    omega
set_option maxRecDepth 100000 in
set_option maxHeartbeats 2000000 in
theorem ins_nil (w : World) : Calls Try.prog 59 #[.slice none 0 0, .int .i64 0, .int .i64 0] w (Same (.tuple #[]) w) := by
  go_enter Try.func59, Try.ntmps59
  go_wp2
  refine wp_loop_rounds 1 ?_
  simp only [rounds_succ]
  go_wp2
  go_end0
  exact ⟨rfl, rfl⟩
set_option maxRecDepth 100000 in
set_option maxHeartbeats 2000000 in
theorem pdq_nil (w : World) : Calls Try.prog 54 #[.slice none 0 0, .int .i64 0, .int .i64 0, .int .i64 0] w (Same (.tuple #[]) w) := by
  have K := Lib.hid ins_nil
  go_enter Try.func54, Try.ntmps54
  go_wp2_with fail
  refine wp_loop_rounds 1 ?_
  simp only [rounds_succ]
  go_wp2_with fail
  with_reducible refine (K.out w).mono ?_
  rintro e w' ⟨rfl, rfl⟩
  go_wp2_with fail
  go_end0
  exact ⟨rfl, rfl⟩
/-- The row comes out sorted; nothing else turns. -/
def Sorted (B : Nat) (v : Value) (ss : List Nat) (w : World) (e : Ending) (w' : World) : Prop := e = .returned (.tuple #[]) ∧ ∃ ts : List Nat, ts.Perm ss ∧ ts.Pairwise (· ≤ ·) ∧ w'.ownsRow B 35 1 v ts.length (us ts) ∧ w.grownBy w' v.ownBlock
set_option maxRecDepth 100000 in
set_option maxHeartbeats 2000000 in
theorem sort_nil (w : World) : Calls Try.prog 40 #[.slice none 0 0] w (Same (.tuple #[]) w) := by
  have K := Lib.hid (pdq_nil w)
  have KL : Hid (Calls Try.prog 55 #[.int .u64 0] w fun e w' => e = .returned (.int .i64 0) ∧ w' = w) := Lib.hid (Try.bits_Len 0 w (by decide) (by decide))
  go_enter Try.func40, Try.ntmps40
  go_wp2_with fail
  with_reducible refine KL.out.mono ?_
  rintro e w' ⟨rfl, rfl⟩
  go_wp2_with fail
  with_reducible refine K.out.mono ?_
  rintro e w' ⟨rfl, rfl⟩
  go_wp2_with fail
  go_end0
  exact ⟨rfl, rfl⟩
set_option maxRecDepth 100000 in
set_option maxHeartbeats 2000000 in
theorem sort_some (g cap N : Nat) (tl : List Value) (d : Array Int) (w : World) (hR : S64.Rw [] tl g 0 w d) (hN : d.size = N) (hsz : N ≤ 1000000) :
    Calls Try.prog 40 #[.slice (some ⟨g, 0, none⟩) N cap] w (S64.Sorts [] tl g 0 0 N d w) := by
  have K : Hid (∀ lim : Nat, lim ≤ 1000 → Calls Try.prog 54 #[.slice (some ⟨g, 0, none⟩) N cap, .int .i64 0, .int .i64 (N : Int), .int .i64 (lim : Int)] w (S64.Sorts [] tl g 0 0 N d w)) :=
    Lib.hid fun lim hlim => S64.pdq_any cap N hsz N 0 N lim d w (by omega) (by omega) (Nat.le_refl _) hlim hR hN (.inl rfl)
  have hlim : Lib.bitLen N ≤ 1000 := by
    have := S64.bit20 N hsz
    apply Nat.le_of_not_lt
    intro hlt
    have h2 := Nat.pow_le_pow_right (show 0 < 2 by omega) (show 21 ≤ Lib.bitLen N by omega)
    omega
  have KL := Lib.hid (Try.bits_Len (N : Int) w (by omega) (by omega))
  rw [Int.toNat_natCast] at KL
  obtain ⟨lim, el⟩ : ∃ lim, lim = Lib.bitLen N := ⟨_, rfl⟩
  rw [← el] at KL hlim
  clear el hR hN
  go_enter Try.func40, Try.ntmps40
  go_wp2_with fail
  with_reducible refine KL.out.mono ?_
  rintro e w' ⟨rfl, rfl⟩
  go_wp2_with fail
  with_reducible refine (K.out lim hlim).mono ?_
  rintro e w' ⟨rfl, h⟩
  have H := Lib.hid h; clear h
  go_wp2_with fail
  go_end0
  exact ⟨rfl, H.out⟩
theorem sort_any (B : Nat) (v : Value) (ss : List Nat) (w : World) (h : w.ownsRow B 35 1 v ss.length (us ss)) (hl : ss.length ≤ 1000000) :
    Calls Try.prog 40 #[v] w (Sorted B v ss w) := by
  have h0 := h
  rcases h.2 with ⟨rfl, hn⟩ | ⟨g, cap, cur, rfl, hB, hg, hc, hm, hs, ht⟩
  · refine (sort_nil w).mono ?_
    rintro e w' ⟨rfl, rfl⟩
    have : ss = [] := List.length_eq_zero_iff.1 hn
    subst this
    exact ⟨rfl, [], List.Perm.refl _, List.Pairwise.nil, h0, ⟨rfl, rfl, rfl, Nat.le_refl _, fun _ _ _ => rfl⟩⟩
  · have hcur : cur = ([] ++ ((arr ss).toList.map (Value.int .u64) ++ cur.toList.drop ss.length)).toArray := by
      rw [arr_cells]
      apply Array.ext'
      simp only [List.nil_append]
      rw [← ht]
      simp
    have hR : S64.Rw [] (cur.toList.drop ss.length) g 0 w (arr ss) := ⟨rfl, by rw [hg]; exact congrArg some (congrArg (fun c => Obj.cells c 35 (0, 0)) hcur)⟩
    refine (sort_some g cap ss.length _ (arr ss) w hR (arr_size ss) hl).mono ?_
    rintro e w' ⟨rfl, d', hp, hsd, hpt⟩
    obtain ⟨ts, rfl, h1, h2⟩ := sorted_list hp hsd
    have hlen := h1.length_eq
    refine ⟨rfl, ts, h1, h2, ⟨by simp [us], .inr ⟨g, cap, _, by rw [hlen], hB, hpt.row.own, by omega, hm, ?_, ?_⟩⟩, ⟨hpt.os, hpt.tape, hpt.output, hpt.size, fun k hk hne => hpt.block k hk (fun e => hne (by rw [e]; rfl))⟩⟩
    · simp [arr_size, arr]; omega
    · rw [arr_cells]; simp [us]
/-- The numbers of blocks. -/
def nos (l : List Blk) : List Nat := l.map (·.1)
theorem up_sorted : ∀ {l : List Blk} {lo hi : Nat}, Mm.Up lo hi l → (nos l).Pairwise (· < ·)
  | [], _, _, _ => List.Pairwise.nil
  | b :: r, lo, hi, h => by
    refine List.pairwise_cons.2 ⟨fun x hx => ?_, up_sorted h.2.2⟩
    obtain ⟨c, hc, rfl⟩ := List.mem_map.1 hx
    exact (h.2.2.mem c hc).1
theorem get_isSome {l : List Blk} {n : Nat} : (Mm.get l n).isSome = true ↔ n ∈ nos l := by
  cases h : Mm.get l n with
  | none =>
    have := Mm.get_none h
    simp [nos]
    intro x hx
    exact this _ hx rfl
  | some ws => simp only [Option.isSome_some, true_iff]; exact List.mem_map.2 ⟨_, Mm.get_some_mem h, rfl⟩
theorem nos_len {S : Mem} (h : Mm.Good S) : (nos S.L).length ≤ 65536 := by
  have h1 := h.fits
  have h2 := h.r2
  have : ∀ l : List Blk, (∀ b ∈ l, 1 ≤ b.2.length) → l.length ≤ Mm.used l := by
    intro l
    induction l with
    | nil => simp
    | cons b r ih =>
      intro hb
      have h1 := hb b List.mem_cons_self
      have h2 := ih fun c hc => hb c (List.mem_cons_of_mem _ hc)
      simp [Mm.used]
      omega
  have := this S.L h.full
  simp [nos]
  omega
/-- The keys that come, sorted, are the blocks' numbers. -/
theorem keys_nos {S : Mem} {D : DataW Value} {g : Nat → Nat} {ss ts : List Nat} (hG : Mm.Good S) (hh : Holds8 D g S.L) (hk : Keyz D ss) (hp : ts.Perm ss) (hs : ts.Pairwise (· ≤ ·)) : ts = nos S.L := by
  have hup := up_sorted hG.up
  have hnd : (nos S.L).Nodup := hup.imp fun h => by omega
  have hp2 : ss.Perm (nos S.L) := (List.perm_ext_iff_of_nodup hk.1 hnd).2 fun x => by rw [hk.2, hh.has, get_isSome]
  exact List.Perm.eq_of_pairwise (fun a b _ _ h1 h2 => by omega) hs (hup.imp fun h => by omega) (hp.trans hp2)
theorem keyz_len {S : Mem} {D : DataW Value} {g : Nat → Nat} {ss : List Nat} (hG : Mm.Good S) (hh : Holds8 D g S.L) (hk : Keyz D ss) : ss.length ≤ 65536 :=
  Nat.le_trans (List.Nodup.length_le_of_subset hk.1 fun x hx => by rw [← get_isSome, ← hh.has]; exact (hk.2 x).1 hx) (nos_len hG)
set_option maxRecDepth 100000 in
set_option maxHeartbeats 1000000 in
theorem sorted_any {B : Nat} {p m b1 : Nat} {g : Nat → Nat} {S : Mem} {w : World} (h : Ar B w p m g S) (hl : S.last ≤ 1000000000000) (h1 : w.cell? ⟨b1, 0, none⟩ = some (.map (some m))) :
    Calls Try.prog 26 #[.func (.func 41) #[] #[.pointer (some ⟨b1, 0, none⟩)]] w (Lists (fun ts => ts = nos S.L) w) := by
  obtain ⟨nn, D, hnn, ho, hh⟩ := h.map
  have K := Lib.hid (collect_any b1 m nn D w h1 ho (by omega))
  have KS : Hid (∀ v ss w', Keyz D ss → w'.ownsRow w.heap.size 35 1 v ss.length (us ss) → Calls Try.prog 40 #[v] w' (Sorted w.heap.size v ss w')) := Lib.hid fun v ss w' hk hr => sort_any _ v ss w' hr (by have := keyz_len h.good hh hk; omega)
  have HE : Hid (∀ ss ts, Keyz D ss → ts.Perm ss → ts.Pairwise (· ≤ ·) → ts = nos S.L) := Lib.hid fun ss ts hk hp hs => keys_nos h.good hh hk hp hs
  clear h h1 ho hh hnn
  go_enter Try.func26, Try.ntmps26
  go_wp2_with fail
  with_reducible refine K.out.mono ?_
  rintro e w1 ⟨v, ss, rfl, hk, hr, hnil, hb⟩
  have HR := Lib.hid hr; clear hr
  have HK := Lib.hid hk; clear hk
  have HN := Lib.hid hnil; clear hnil
  have HB := Lib.hid hb; clear hb
  go_wp2_with fail
  with_reducible refine (KS.out v ss w1 HK.out HR.out).mono ?_
  rintro e w2 ⟨rfl, ts, hp, hs, hr, hg⟩
  have HT := Lib.hid (HE.out ss ts HK.out hp hs)
  have HP := Lib.hid hp
  have HR2 := Lib.hid hr
  have HG := Lib.hid hg
  clear hp hs hr hg
  go_wp2_with fail
  go_ret
  refine ⟨v, ts, rfl, HT.out, HR2.out, HN.out.trans ⟨fun e => by subst e; exact List.perm_nil.1 HP.out, fun e => by subst e; exact (List.perm_nil.1 HP.out.symm)⟩, HB.out.trans ⟨HG.out.os, HG.out.tape, HG.out.output, HG.out.size, fun k hk => HG.out.block k (by have := HB.out.size; omega) (fun e => by have := (HR.out.lt k e.symm).1; omega)⟩⟩
set_option maxRecDepth 100000 in
set_option maxHeartbeats 1000000 in
theorem blocks_any {B : Nat} {w : World} {p : Nat} {S : Mem} {F : Nat → Prop} (h : Ax B w p S F) (hl : S.last ≤ 1000000000000) :
    Calls Try.prog 14 #[.pointer (some ⟨p, 0, none⟩)] w (Lists (fun ts => ts = nos S.L) w) := by
  obtain ⟨m, g, h, rfl⟩ := h
  have HM := Lib.hid h.made
  have c4 := h.c4
  have hb0 : Below w.heap.size w (w.alloc (.cells #[.map (some m)] 64)) := (Below.refl _ w).alloc (Nat.le_refl _) _
  have h' : Ar B (w.alloc (.cells #[.map (some m)] 64)) p m g S := h.keep fun k hk => hb0.block k (h.foot hk).2
  have hc1 : (w.alloc (.cells #[.map (some m)] 64)).cell? ⟨w.heap.size, 0, none⟩ = some (.map (some m)) := by
    have e := heap_alloc_new w (.cells #[.map (some m)] 64)
    simp only [World.cell?]
    rw [e]
    rfl
  have KS := Lib.hid (sorted_any h' hl hc1)
  have KK := Lib.hid (keys_any (some m) w)
  have HB0 := Lib.hid hb0
  clear h h' hb0 hc1
  go_enter Try.func14, Try.ntmps14
  go_wp2_with fail
  with_reducible refine HM.out.mono ?_
  rintro e w' ⟨rfl, rfl⟩
  go_wp2_with fail
  with_reducible refine KK.out.mono ?_
  rintro e w1 ⟨rfl, rfl⟩
  go_wp2_with fail
  with_reducible refine KS.out.mono ?_
  rintro e w2 ⟨v, ts, rfl, ht, hr, hnil, hb⟩
  have HT := Lib.hid ht; clear ht
  have HR := Lib.hid hr; clear hr
  have HN := Lib.hid hnil; clear hnil
  have HB := Lib.hid hb; clear hb
  go_wp2_with fail
  go_ret
  refine ⟨v, ts, rfl, HT.out, ?_, HN.out, HB0.out.trans (HB.out.mono (by simp))⟩
  have := HR.out
  refine ⟨this.1, ?_⟩
  rcases this.2 with hn | ⟨g, cap, cur, h1, h2, h3⟩
  · exact .inl hn
  · exact .inr ⟨g, cap, cur, h1, by simp at h2; omega, h3⟩
end Go.Proofs.Ythldjdkjgiebaaa
