/-
  The texts that MixBytes makes: one byte more at a place. By an AI agent.
-/
import Derived.Test.YtcbiciofdkajnaaMixAwake
import Derived.Laws.Concat
import Derived.Laws.BytesString
import Derived.Lib.IndexBytes
namespace Go.Proofs.Ytcbiciofdkajnaa
open Go.RowKit
/-- One byte as a text. -/
theorem conv1 (v : Int) (h0 : 0 ≤ v) (h1 : v ≤ 255) (W : World) (b o : Nat) (hc : W.cell? ⟨b, o, none⟩ = some (.int .u8 v)) :
    (convert 31 9 (.slice (some ⟨b, o, none⟩) 1 1)).run Try.prog W = .ok (.string ⟨#[UInt8.ofNat v.toNat]⟩) W := by
  have h := run_convert_bytes_back (P := Try.prog) W 31 9 5 ⟨b, o, none⟩ 1 [UInt8.ofNat v.toNat] Try.underlying31 Try.underlying5 Try.underlying9 (fun j hj => by
    have hj0 : j = 0 := by simpa using hj
    subst hj0
    have e : ((UInt8.ofNat v.toNat).toNat : Int) = v := by
      rw [UInt8.toNat_ofNat']
      omega
    simp only [List.getElem_cons_zero]
    rw [e]
    simpa [Addr.add] using hc)
  exact h
/-- The text with one byte more at place k, and its first part. -/
def pre (s : ByteArray) (k : Nat) (v : Int) : ByteArray := s.extract 0 k ++ ⟨#[UInt8.ofNat v.toNat]⟩
def txt (s : ByteArray) (k : Nat) (v : Int) : ByteArray := pre s k v ++ s.extract k s.size
theorem pre_size {s : ByteArray} {k : Nat} {v : Int} (hk : k ≤ s.size) : (pre s k v).size = k + 1 := by
  simp only [pre, ByteArray.size_append, ByteArray.size_extract]
  show min k s.size - 0 + 1 = k + 1
  omega
theorem txt_size {s : ByteArray} {k : Nat} {v : Int} (hk : k ≤ s.size) : (txt s k v).size = s.size + 1 := by
  simp only [txt, ByteArray.size_append, ByteArray.size_extract, pre_size hk]
  omega
theorem txt_list {s : ByteArray} {k : Nat} {v : Int} : (txt s k v).data.toList = s.data.toList.take k ++ UInt8.ofNat v.toNat :: s.data.toList.drop k := by
  simp only [txt, pre, ByteArray.data_append, ByteArray.data_extract, Array.toList_append, Array.toList_extract, List.extract_eq_take_drop]
  have e : List.take (s.size - k) (List.drop k s.data.toList) = List.drop k s.data.toList := List.take_of_length_le (by rw [List.length_drop, ba_len]; omega)
  simp [e]
theorem add1 {s : ByteArray} {k : Nat} {v : Int} (hk : k ≤ s.size) (hs : s.size ≤ 2000) (W : World) : (Op.stringOp .add (s.extract 0 k) ⟨#[UInt8.ofNat v.toNat]⟩).run Try.prog W = .ok (.string (pre s k v)) W :=
  run_string_add_sum W _ _ (by
    have : (s.extract 0 k).size = min k s.size - 0 := ByteArray.size_extract
    rw [this]
    show min k s.size - 0 + 1 ≤ _
    omega)
theorem add2 {s : ByteArray} {k : Nat} {v : Int} (hk : k ≤ s.size) (hs : s.size ≤ 2000) (W : World) : (Op.stringOp .add (pre s k v) (s.extract k s.size)).run Try.prog W = .ok (.string (txt s k v)) W :=
  run_string_add_sum W _ _ (by
    rw [pre_size hk, ByteArray.size_extract]
    omega)
theorem byte_of_eq {u v : Int} (h0 : 0 ≤ u) (h1 : u ≤ 255) (k0 : 0 ≤ v) (k1 : v ≤ 255) : UInt8.ofNat u.toNat = UInt8.ofNat v.toNat ↔ u = v := by
  refine ⟨fun h => ?_, fun h => by rw [h]⟩
  have e := congrArg UInt8.toNat h
  rw [UInt8.toNat_ofNat', UInt8.toNat_ofNat'] at e
  omega
theorem txt_apart {s : ByteArray} {k a : Nat} {u v : Int} (ha : a < 18446744073709551616) (h0 : 0 ≤ u) (h1 : u ≤ 255) (k0 : 0 ≤ v) (k1 : v ≤ 255) :
    (Mx.hsh a (txt s k u).data.toList = Mx.hsh a (txt s k v).data.toList) ↔ u = v := by
  rw [txt_list, txt_list, Mx.hsh_byte _ _ _ _ ha, byte_of_eq h0 h1 k0 k1]
end Go.Proofs.Ytcbiciofdkajnaa
