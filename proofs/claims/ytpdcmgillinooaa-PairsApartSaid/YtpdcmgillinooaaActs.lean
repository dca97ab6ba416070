/- How a list of acts, and a list of pairs, is read: the cells, and their bounds. No condition. -/
import Derived.Test.YtpdcmgillinooaaPairLight
import Derived.ProofKit
import Derived.Deep.Slices
import Derived.Deep.Fields
namespace Go.Proofs.Ytpdcmgillinooaa
open Go.ChangeShapes Go.WideShapes Go.ChangeAt Go.RowKit Go.Deep

theorem Try.own : ownKnob Try.prog.godebug = none := by kernel_rfl
theorem Try.laidOut : laidOutB Try.prog = true := by kernel_rfl
theorem Try.cellsAct : Try.prog.cellsOf 31 = 5 := by kernel_rfl
theorem Try.cells3 : Try.prog.cellsOf 3 = 1 := by kernel_rfl
theorem Try.cells28 : Try.prog.cellsOf 29 = 1 := by kernel_rfl
theorem Try.cells9 : Try.prog.cellsOf 9 = 1 := by kernel_rfl

theorem i64_bounds {n : Int} (h : (Lit.int .i64 n).wf = true) : -9223372036854775808 ≤ n ∧ n ≤ 9223372036854775807 := by
  have h1 : IntKind.i64.min = -9223372036854775808 := rfl
  have h2 : IntKind.i64.max = 9223372036854775807 := rfl
  simp only [Lit.wf, Bool.and_eq_true, decide_eq_true_eq] at h
  omega
theorem u64_bounds {n : Int} (h : (Lit.int .u64 n).wf = true) : 0 ≤ n ∧ n < 18446744073709551616 := by
  have h1 : IntKind.u64.min = 0 := rfl
  have h2 : IntKind.u64.max = 18446744073709551615 := rfl
  simp only [Lit.wf, Bool.and_eq_true, decide_eq_true_eq] at h
  omega

section
variable {H : Type} {enc : TypeId × Value → H} {w : World} {base : Nat} {spare : Nat → Bool} {held : Bool}

/-- The cells of one item. -/
theorem item_cells {fuel : Nat} {cs : List Value} {x : DataW H × List MemPlace} (h : DataW.trod enc Try.prog w base spare held fuel 31 cs = some x) : ∃ it : It, it.ok ∧ cs = it.vals := by
  obtain ⟨xs, n, _, _, hlen, _, hf⟩ := DataW.trod_struct Try.underlying31 h
  rw [Try.cellsAct] at hlen
  match cs, hlen with
  | [a, b, c, d, e], _ =>
    have get : ∀ {y : Option (DataW H × List MemPlace)} {t : TypeId} {v : Value}, DataW.trod enc Try.prog w base spare held n t [v] = y → (y = none → False) → ∃ z, DataW.trod enc Try.prog w base spare held n t [v] = some z := by
      intro y t v hy hn
      cases hy' : DataW.trod enc Try.prog w base spare held n t [v] with
      | none => exact (hn (hy.symm.trans hy')).elim
      | some z => exact ⟨z, rfl⟩
    have hxl : xs.length = 5 := by assumption
    have hx : ∀ i, i < 5 → xs[i]? = none → False := fun i hi e => by
      have := List.getElem?_eq_none_iff.1 e
      omega
    obtain ⟨z0, h0⟩ := get (by simpa [Try.cells3] using hf 0 _ rfl) (hx 0 (by omega))
    obtain ⟨z1, h1⟩ := get (by simpa [Try.cells9] using hf 1 _ rfl) (hx 1 (by omega))
    obtain ⟨z2, h2⟩ := get (by simpa [Try.cells28] using hf 2 _ rfl) (hx 2 (by omega))
    obtain ⟨z3, h3⟩ := get (by simpa [Try.cells9] using hf 3 _ rfl) (hx 3 (by omega))
    obtain ⟨z4, h4⟩ := get (by simpa [Try.cells3] using hf 4 _ rfl) (hx 4 (by omega))
    obtain ⟨n0, e0, _, _⟩ := DataW.trod_int Try.underlying3 h0
    obtain ⟨s1, e1, _, ws1⟩ := DataW.trod_string Try.underlying9 h1
    obtain ⟨n2, e2, _, w2⟩ := DataW.trod_int Try.underlying29 h2
    obtain ⟨s3, e3, _, ws3⟩ := DataW.trod_string Try.underlying9 h3
    obtain ⟨n4, e4, _, w4⟩ := DataW.trod_int Try.underlying3 h4
    have b2 := u64_bounds w2
    have b4 := i64_bounds w4
    simp at e0 e1 e2 e3 e4
    subst e0 e1 e2 e3 e4
    exact ⟨⟨n0, s1, n2, s3, n4⟩, ⟨b2, b4, by simpa [maxLen] using ws1, by simpa [maxLen] using ws3⟩, rfl⟩

instance : Inhabited It := ⟨⟨0, ByteArray.empty, 0, ByteArray.empty, 0⟩⟩

/-- A list of items. -/
theorem items_read {fuel : Nat} {ao : Option Addr} {len cap : Nat} {x : DataW H × List MemPlace} (h : DataW.trod enc Try.prog w 0 (fun _ => true) true fuel 22 [.slice ao len cap] = some x) :
    len ≤ 9223372036854775807 ∧ ∃ X : Nat → It, Items w w.heap.size ao len X ∧ ∀ i, i < len → (X i).ok := by
  rcases open_slice Try.underlying22 h with ⟨hcs, _⟩ | ⟨a, len', cap', m, n, D, Pl, hcs, _, hl, hm, hmm, _, hx⟩
  · simp at hcs
    obtain ⟨rfl, rfl, rfl⟩ := hcs
    exact ⟨by omega, fun _ => default, fun i hi => absurd hi (Nat.not_lt_zero _), fun i hi => absurd hi (Nat.not_lt_zero _)⟩
  · simp at hcs
    obtain ⟨rfl, rfl, rfl⟩ := hcs
    simp only [if_true] at hmm
    rw [Try.cellsAct] at hx
    obtain ⟨X, hX⟩ := choose_lt (α := It) (n := len) (p := fun i it => it.ok ∧ ∀ j v, it.vals[j]? = some v → w.cell? (a.add (i * 5 + j)) = some v) (fun i hi => by
      obtain ⟨cs', h1, h2⟩ := hx i (by omega)
      obtain ⟨it, hok, rfl⟩ := item_cells h2
      obtain ⟨_, hlen, hc⟩ := World.cells?_some h1
      refine ⟨it, hok, fun j v hv => ?_⟩
      have hj : j < 5 := by have := (List.getElem?_eq_some_iff.1 hv).1; rw [hlen] at this; exact this
      rw [← add_add, hc j hj]
      exact hv)
    refine ⟨by unfold maxLen at hm; omega, X, fun i hi => ?_, fun i hi => (hX i hi).1⟩
    obtain ⟨b, off, spot⟩ := a
    have h0 := (hX i hi).2 0 _ rfl
    have hz := (hX 0 (by omega)).2 0 _ rfl
    have hspot : spot = none := by simpa [Addr.add] using World.cell?_spot hz
    clear hz
    subst hspot
    refine ⟨b, off, rfl, ?_, fun j v hv => ?_⟩
    · rw [add_plain] at h0; exact World.block_lt_of_cell? w _ h0
    · have := (hX i hi).2 j v hv
      rw [add_plain] at this
      rw [Nat.add_assoc]
      exact this
end
end Go.Proofs.Ytpdcmgillinooaa
