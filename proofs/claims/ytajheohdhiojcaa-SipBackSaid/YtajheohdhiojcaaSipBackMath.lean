/- Plain facts for the law SipBack: the bytes of a list of items, piece by piece; what each kind of reading tells at an item's bytes; bytes of a row of one's own as an eye's bytes. No walk. -/
import Derived.Test.YtajheohdhiojcaaEyeText
import Derived.Test.YtajheohdhiojcaaSipWritesWalk
namespace Go.Proofs.Ytajheohdhiojcaa
open Go.RowKit

def It.bytes (x : It) : List UInt8 := itemBytes x.kind x.num x.int x.text

/-- The bytes of the first n items. -/
def firsts (X : Nat → It) (n : Nat) : List UInt8 := (List.range n).flatMap fun i => (X i).bytes
/-- The bytes of the items from i on, up to n. -/
def rests (X : Nat → It) (n i : Nat) : List UInt8 := ((List.range n).drop i).flatMap fun i => (X i).bytes

theorem firsts_zero (X : Nat → It) : firsts X 0 = [] := rfl
theorem firsts_succ (X : Nat → It) (n : Nat) : firsts X (n + 1) = firsts X n ++ (X n).bytes := by
  unfold firsts
  rw [List.range_succ, List.flatMap_append]
  simp
theorem rests_zero (X : Nat → It) (n : Nat) : rests X n 0 = firsts X n := by unfold rests firsts; rfl
theorem rests_end (X : Nat → It) (n i : Nat) (h : n ≤ i) : rests X n i = [] := by
  unfold rests
  rw [List.drop_eq_nil_of_le (by simpa using h)]
  rfl
theorem rests_step (X : Nat → It) (n i : Nat) (h : i < n) : rests X n i = (X i).bytes ++ rests X n (i + 1) := by
  unfold rests
  rw [List.drop_eq_getElem_cons (by simpa using h), List.flatMap_cons]
  simp

/-- A number with a sign. -/
theorem read_int (x : Int) (rest : List UInt8) (h0 : -9223372036854775808 ≤ x) (h1 : x ≤ 9223372036854775807) :
    rnum 18446744073709551615 (Lib.uvarint (Lib.zigzag x) ++ rest) = (Lib.zigzag x, 0, rest) := by
  have := Lib.zigzag_lt h0 h1
  exact rnum_uvarint _ _ _ this (by omega)

theorem read_truth (n : Nat) (rest : List UInt8) : rnum 1 (Lib.uvarint (n % 2) ++ rest) = (n % 2, 0, rest) := rnum_uvarint _ _ _ (by omega) (by omega)

theorem read_num (n : Nat) (rest : List UInt8) (h : n < 18446744073709551616) : rnum n (Lib.uvarint n ++ rest) = (n, 0, rest) := rnum_uvarint _ _ _ h (Nat.le_refl _)

theorem read_text {w w' : World} {eb : Nat} {s : ByteArray} {rest : List UInt8} {e : Ending} (hs : s.size < 18446744073709551616)
    (h : TextDone w w' eb (s.size : Int) (rnum 18446744073709551615 (Lib.uvarint s.size ++ s.data.toList ++ rest)) e) : e = .returned (.string s) ∧ Took w w' eb rest 0 := by
  rw [List.append_assoc, rnum_uvarint _ _ _ hs (by omega)] at h
  obtain ⟨x, f, left, rfl, ht, h⟩ := h
  have hl : s.data.toList.length = s.size := by simp
  rcases h with ⟨rfl, _, _, _, rfl, rfl⟩ | ⟨_, hn⟩
  · simp only at ht ⊢
    have e1 : (s.data.toList ++ rest).take s.size = s.data.toList := by rw [← hl]; simp
    have e2 : (s.data.toList ++ rest).drop s.size = rest := by rw [← hl]; simp
    rw [e2] at ht
    refine ⟨?_, ht⟩
    rw [e1]
  · exact absurd ⟨rfl, Int.le_refl _, by simp only [List.length_append]; omega⟩ hn

/-- A row of one's own, for an eye in another block. -/
theorem bs_own {w : World} {B eb : Nat} {v : Value} {l : List UInt8} (h : w.ownsRow B 5 1 v l.length (Lib.byteCells l)) (he : w.heap.size ≤ eb) (hl : l.length ≤ 70368744177664) : Bs w eb v l := by
  rcases h.2 with ⟨rfl, hn⟩ | ⟨g, cap, cur, rfl, hb, hg, hnc, hcm, _, _⟩
  · have : l = [] := List.eq_nil_of_length_eq_zero hn
    subst this
    exact Bs.nil _ _
  · have hc := h.cells (g := g) rfl
    refine ⟨_, cap, rfl, hnc, hcm, fun _ => ⟨g, 0, rfl, by have := lt_of_block hg; omega, fun j hj => ?_⟩⟩
    have := hc j _ (by simp [Lib.byteCells, hj]; rfl)
    rw [add_at] at this
    exact this
end Go.Proofs.Ytajheohdhiojcaa
