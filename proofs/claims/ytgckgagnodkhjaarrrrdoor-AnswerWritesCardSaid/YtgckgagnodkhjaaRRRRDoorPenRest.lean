/- (*sip.Pen).Int, Truth, Text, Len, Bytes at a pen that is not nil, and sip.fold. Conditions: as for Num. -/
import Derived.Test.YtgckgagnodkhjaaRRRRDoorPenNum
import Derived.Lib.Zigzag
namespace Go.Proofs.YtgckgagnodkhjaaRRRRDoor
open Go.RowKit

theorem info_parts5 : ∃ i0, Tryd.prog.info? 5 = some i0 ∧ i0.zero = some (Value.int .u8 0) ∧ i0.size = 1 ∧ i0.bytes = 1 := by
  obtain ⟨i0, hi, hz0, hz1, hz2⟩ := info_parts Tryd.info5
  exact ⟨i0, hi, hz0, hz1, hz2⟩

theorem penRow_alloc {w : World} {pb : Nat} (h : pb < w.heap.size) (o : Obj) : penRow (w.alloc o) pb = penRow w pb := by unfold penRow; rw [World.cell?_alloc_past _ _ _ h]

theorem num_one (B pb x : Nat) (l : List UInt8) (w : World) (hx : x < 18446744073709551616) (hl : l.length ≤ 35184372088832) (hpen : Pen w B pb l) (hB : B ≤ w.heap.size) (g : Nat) (hg : g = w.heap.size) :
    Calls Tryd.prog 25 #[.pointer (some ⟨pb, 0, none⟩), .slice (some ⟨g, 0, none⟩) 1 1] (w.alloc (.cells #[.int .u64 x] 22)) fun e w' => e = .returned (.tuple #[]) ∧ DigitsDone w w' B pb (l ++ Lib.uvarint x) := by
  subst hg
  have hlt := hpen.lt
  refine (penNum_any B pb w.heap.size 1 1 [x] l _ (by simpa using hx) rfl (by omega) hl (hpen.alloc _) (by simp; omega) (by omega) ?_ ?_).mono ?_
  · rw [penRow_alloc hlt]
    intro e
    have := (hpen.row _ e.symm).2.1
    omega
  · intro j hj
    match j, hj with
    | 0, _ => exact (World.cell?_alloc_new _ _ _ _).trans (by simp)
  · rintro e w' ⟨rfl, hd⟩
    refine ⟨rfl, by simpa [nums] using hd.1, ((Wr.refl _ _).alloc hlt _).trans hd.2⟩

def zigs (xs : List Int) : List Nat := xs.map Lib.zigzag

theorem take_snoc_int (xs : List Int) (k : Nat) (hk : k < xs.length) : xs.take (k + 1) = xs.take k ++ [xs.getD k 0] := by
  rw [List.take_add_one, List.getD_eq_getElem?_getD, List.getElem?_eq_getElem hk]; rfl

theorem getD_range (xs : List Int) (h : ∀ x ∈ xs, -9223372036854775808 ≤ x ∧ x ≤ 9223372036854775807) (k : Nat) : -9223372036854775808 ≤ xs.getD k 0 ∧ xs.getD k 0 ≤ 9223372036854775807 := by
  by_cases hk : k < xs.length
  · rw [List.getD_eq_getElem?_getD, List.getElem?_eq_getElem hk]; exact h _ (List.getElem_mem hk)
  · rw [List.getD_eq_getElem?_getD, List.getElem?_eq_none (by omega)]; simp

end Go.Proofs.YtgckgagnodkhjaaRRRRDoor
