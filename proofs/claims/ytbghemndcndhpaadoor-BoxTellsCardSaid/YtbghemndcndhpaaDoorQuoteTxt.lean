/- Small facts on texts and pieces, where the laws of quote itself are not in the cut (else they stand in QuoteCount, QuoteRead, QuoteGet, QuoteShows, QuotePuts). No walk. -/
import Derived.Test.YtbghemndcndhpaaDoorQuotePut
namespace Go.Proofs.YtbghemndcndhpaaDoor
open Go.RowKit

theorem ret_val {a b : Value} (h : a = b) : Ending.returned a = .returned b := by rw [h]

theorem pcs_drop {s : ByteArray} {pos : Nat} (hp : pos < s.size) : pcs (s.data.toList.drop pos) = ((s.data.toList.drop pos).take (dec (s.data.toList.drop pos)).2, stray (s.data.toList.drop pos)) :: pcs (s.data.toList.drop (pos + (dec (s.data.toList.drop pos)).2)) := by
  rw [pcs_cons (drop_ne hp), List.drop_drop]

theorem pcs_end {s : ByteArray} {pos : Nat} (hp : ¬ pos < s.size) : pcs (s.data.toList.drop pos) = [] := by
  have : s.data.toList.drop pos = [] := List.drop_eq_nil_of_le (by simp; omega)
  rw [this, pcs_nil]

theorem str_list (s : ByteArray) : s = ⟨s.data.toList.toArray⟩ := by
  apply ByteArray.ext
  simp

theorem gb_at {s : ByteArray} {i : Nat} (h : i < s.size) : gb s.data.toList i = (s[i]'h).toNat := by
  unfold gb
  rw [List.getElem?_eq_getElem (by simpa using h)]
  rfl

theorem ext_mid (s : ByteArray) (i j : Nat) : s.extract i j = ⟨((s.data.toList.drop i).take (j - i)).toArray⟩ := by
  apply ByteArray.ext
  rw [ByteArray.data_extract]
  apply Array.ext'
  simp [List.extract_eq_take_drop]

theorem len_toList (s : ByteArray) : s.data.toList.length = s.size := by simp

theorem str_ne {a b : ByteArray} (h : a ≠ b) : (a.toList == b.toList) = false := by
  rw [beq_eq_false_iff_ne, ByteArray.toList_eq, ByteArray.toList_eq]
  intro e
  apply h
  rw [str_list a, str_list b, e]

theorem str_eq {a b : ByteArray} (h : a = b) : (a.toList == b.toList) = true := by rw [h]; simp

def txt (l : List UInt8) : ByteArray := ⟨l.toArray⟩

theorem txt_data (l : List UInt8) : (txt l).data.toList = l := by simp [txt]

theorem txt_size (l : List UInt8) : (txt l).size = l.length := by simp [txt, ByteArray.size]

theorem txt_inj {a b : List UInt8} (h : txt a = txt b) : a = b := by rw [← txt_data a, ← txt_data b, h]

theorem txt_self (s : ByteArray) : txt s.data.toList = s := (str_list s).symm

theorem qs_len (l : List UInt8) : (qs l).length ≤ 6 * l.length := by
  by_cases h : l = []
  · subst h; rw [qs_nil]; simp
  · have h1 := q_len l h
    have h2 := qs_len (l.drop (dec l).2)
    have h3 := width_le l h
    rw [List.length_drop] at h2
    rw [qs_cons h, List.length_append]
    omega
termination_by l.length
decreasing_by exact drop_lt l h
end Go.Proofs.YtbghemndcndhpaaDoor
