/- Facts on pieces of a text; the document's own 'digit' (bowerref02). Condition: a digit below 16. -/
import Derived.Test.YtbghemndcndhpaaDoorQuoteParts
namespace Go.Proofs.YtbghemndcndhpaaDoor
open Go.RowKit

theorem pcs_len (l : List UInt8) : (pcs l).length ≤ l.length := by
  by_cases h : l = []
  · subst h; rw [pcs_nil]; simp
  · have h2 := pcs_len (l.drop (dec l).2)
    have h3 := width_le l h
    rw [List.length_drop] at h2
    rw [pcs_cons h, List.length_cons]
    omega
termination_by l.length
decreasing_by exact drop_lt l h

theorem pcs_flat (l : List UInt8) : (pcs l).flatMap (·.1) = l := by
  by_cases h : l = []
  · subst h; rw [pcs_nil]; rfl
  · rw [pcs_cons h, List.flatMap_cons, pcs_flat (l.drop (dec l).2), List.take_append_drop]
termination_by l.length
decreasing_by exact drop_lt l h

theorem flat_take {α β : Type} (P : List α) (f : α → List β) (k : Nat) : ((P.take k).flatMap f).length ≤ (P.flatMap f).length := by
  have h : P.flatMap f = (P.take k).flatMap f ++ (P.drop k).flatMap f := by rw [← List.flatMap_append, List.take_append_drop]
  rw [h, List.length_append]
  omega

theorem row_form {w : World} {B : Nat} {e : TypeId} {v : Value} {n : Nat} {xs : List Value} (h : w.ownsRow B e 1 v n xs) : ∃ ao c, v = .slice ao n c := by
  rcases h.2 with ⟨rfl, hn⟩ | ⟨g, cap, cur, rfl, _⟩
  · exact ⟨none, 0, by rw [hn]⟩
  · exact ⟨_, _, rfl⟩

/-- The cell at a place. -/
theorem row_at {w : World} {B : Nat} {e : TypeId} {ao : Option Addr} {n c : Nat} {xs : List Value} (h : w.ownsRow B e 1 (.slice ao n c) n xs) (j : Nat) (hj : j < n) : ∃ g, ao = some ⟨g, 0, none⟩ ∧ w.cell? ⟨g, j, none⟩ = xs[j]? := by
  rcases h.2 with ⟨e1, hn⟩ | ⟨g, cap, cur, e1, _⟩
  · omega
  · injection e1 with e1 _ e2
    subst e1
    exact ⟨g, rfl, h.cellAt (g := g) j (by omega)⟩

theorem txt_append (a b : List UInt8) : txt a ++ txt b = txt (a ++ b) := by
  apply ByteArray.ext
  rw [ByteArray.data_append]
  simp [txt]

theorem digit_fin : ∀ n : Fin 16, (⟨#[48, 49, 50, 51, 52, 53, 54, 55, 56, 57, 97, 98, 99, 100, 101, 102]⟩ : ByteArray).extract n.val (n.val + 1) = txt [hexd n.val] := by decide +kernel

theorem digit_any (z : Int) (n : Nat) (hz : z = n) (hn : n < 16) (w : World) :
    Calls Tryd.prog 45 #[.int .i64 z] w fun e w' => e = .returned (.string (txt [hexd n])) ∧ w = w' := by
  subst hz
  have hd := Lib.hid (digit_fin ⟨n, hn⟩)
  go_enter Tryd.func45, Tryd.ntmps45
  go_wp2
  go_ret
  exact ⟨ret_val (congrArg Value.string hd.out), rfl⟩
end Go.Proofs.YtbghemndcndhpaaDoor
