/- How a list of acts, and a list of bytes, is read: the cells, and their bounds. No condition. -/
import Derived.Test.YtlbafmmeglafhaaKit
import Derived.ProofKit
import Derived.ChangeMaps5
import Derived.Carry
import Derived.OpenShut
import Derived.Deep.Slices
import Derived.Deep.Fields
namespace Go.Proofs.Ytlbafmmeglafhaa
open Go.ChangeShapes Go.WideShapes Go.ChangeAt Go.RowKit Go.Deep Go.ChangeMaps

theorem Try.own : ownKnob Try.prog.godebug = none := by kernel_rfl
theorem Try.laidOut : laidOutB Try.prog = true := by kernel_rfl
theorem Try.cellsAct : Try.prog.cellsOf 38 = 5 := by kernel_rfl
theorem Try.cellsInt : Try.prog.cellsOf 3 = 1 := by kernel_rfl
theorem Try.cellsU64 : Try.prog.cellsOf 22 = 1 := by kernel_rfl
theorem Try.cellsU8 : Try.prog.cellsOf 5 = 1 := by kernel_rfl

theorem i64_in {n : Int} (h : (Lit.int .i64 n).wf = true) : -9223372036854775808 ≤ n ∧ n ≤ 9223372036854775807 := by
  have h1 : IntKind.i64.min = -9223372036854775808 := rfl
  have h2 : IntKind.i64.max = 9223372036854775807 := rfl
  simp only [Lit.wf, Bool.and_eq_true, decide_eq_true_eq] at h
  omega
theorem u64_in {n : Int} (h : (Lit.int .u64 n).wf = true) : ∃ m : Nat, n = m ∧ m < 18446744073709551616 := by
  have h1 : IntKind.u64.min = 0 := rfl
  have h2 : IntKind.u64.max = 18446744073709551615 := rfl
  simp only [Lit.wf, Bool.and_eq_true, decide_eq_true_eq] at h
  exact ⟨n.toNat, by omega, by omega⟩
theorem u8_in {n : Int} (h : (Lit.int .u8 n).wf = true) : ∃ m : Nat, n = m ∧ m < 256 := by
  have h1 : IntKind.u8.min = 0 := rfl
  have h2 : IntKind.u8.max = 255 := rfl
  simp only [Lit.wf, Bool.and_eq_true, decide_eq_true_eq] at h
  exact ⟨n.toNat, by omega, by omega⟩

/-- An act's fields. -/
structure It where
  kind : Int
  at_ : Int
  ago : Int
  raw : Nat
  x : Int
def It.vals (y : It) : List Value := [.int .i64 y.kind, .int .i64 y.at_, .int .i64 y.ago, .int .u64 y.raw, .int .i64 y.x]
def It.ok (y : It) : Prop := (-9223372036854775808 ≤ y.at_ ∧ y.at_ ≤ 9223372036854775807) ∧ y.raw < 18446744073709551616 ∧ (-9223372036854775808 ≤ y.x ∧ y.x ≤ 9223372036854775807)
instance : Inhabited It := ⟨⟨0, 0, 0, 0, 0⟩⟩

/-- The list's items lie in the world, in blocks below N. -/
def Items (w : World) (N : Nat) (ao : Option Addr) (len : Nat) (X : Nat → It) : Prop :=
  ∀ i, i < len → ∃ b off, ao = some ⟨b, off, none⟩ ∧ b < N ∧ ∀ j v, (X i).vals[j]? = some v → w.cell? ⟨b, off + i * 5 + j, none⟩ = some v
theorem Items.keep {w w' : World} {N : Nat} {ao : Option Addr} {len : Nat} {X : Nat → It} (h : Items w N ao len X) (hb : Below N w w') : Items w' N ao len X := by
  intro i hi
  obtain ⟨b, off, e, hlt, hc⟩ := h i hi
  exact ⟨b, off, e, hlt, fun j v hv => (hb.cell (p := ⟨b, off + i * 5 + j, none⟩) hlt).trans (hc j v hv)⟩

/-- The list's bytes lie in the world, in blocks below N. -/
def Bytes8 (w : World) (N : Nat) (ao : Option Addr) (len : Nat) (X : Nat → Nat) : Prop :=
  ∀ i, i < len → ∃ b off, ao = some ⟨b, off, none⟩ ∧ b < N ∧ w.cell? ⟨b, off + i, none⟩ = some (.int .u8 (X i : Nat))
theorem Bytes8.keep {w w' : World} {N : Nat} {ao : Option Addr} {len : Nat} {X : Nat → Nat} (h : Bytes8 w N ao len X) (hb : Below N w w') : Bytes8 w' N ao len X := by
  intro i hi
  obtain ⟨b, off, e, hlt, hc⟩ := h i hi
  exact ⟨b, off, e, hlt, (hb.cell (p := ⟨b, off + i, none⟩) hlt).trans hc⟩

section
variable {H : Type} {enc : TypeId × Value → H} {w : World} {base : Nat} {spare : Nat → Bool} {held : Bool}


set_option maxRecDepth 100000 in
theorem item_cells {fuel : Nat} {cs : List Value} {x : DataW H × List MemPlace} (h : DataW.trod enc Try.prog w base spare held fuel 38 cs = some x) : ∃ it : It, it.ok ∧ cs = it.vals := by
  obtain ⟨xs, n, _, _, hlen, _, hf⟩ := DataW.trod_struct Try.underlying38 h
  rw [Try.cellsAct] at hlen
  match cs, hlen with
  | [a, b, c, d, f], _ =>
    have get : ∀ {y : Option (DataW H × List MemPlace)} {t : TypeId} {v : Value}, DataW.trod enc Try.prog w base spare held n t [v] = y → (y = none → False) → ∃ z, DataW.trod enc Try.prog w base spare held n t [v] = some z := by
      intro y t v hy hn
      cases hy' : DataW.trod enc Try.prog w base spare held n t [v] with
      | none => exact (hn (hy.symm.trans hy')).elim
      | some z => exact ⟨z, rfl⟩
    have hxl : xs.length = 5 := by assumption
    have hx : ∀ i, i < 5 → xs[i]? = none → False := fun i hi e => by
      have := List.getElem?_eq_none_iff.1 e
      omega
    obtain ⟨z0, h0⟩ := get (by simpa [Try.cellsInt] using hf 0 _ rfl) (hx 0 (by omega))
    obtain ⟨z1, h1⟩ := get (by simpa [Try.cellsInt] using hf 1 _ rfl) (hx 1 (by omega))
    obtain ⟨z2, h2⟩ := get (by simpa [Try.cellsInt] using hf 2 _ rfl) (hx 2 (by omega))
    obtain ⟨z3, h3⟩ := get (by simpa [Try.cellsU64] using hf 3 _ rfl) (hx 3 (by omega))
    obtain ⟨z4, h4⟩ := get (by simpa [Try.cellsInt] using hf 4 _ rfl) (hx 4 (by omega))
    obtain ⟨n0, e0, _, w0⟩ := DataW.trod_int Try.underlying3 h0
    obtain ⟨n1, e1, _, w1⟩ := DataW.trod_int Try.underlying3 h1
    obtain ⟨n2, e2, _, w2⟩ := DataW.trod_int Try.underlying3 h2
    obtain ⟨n3, e3, _, w3⟩ := DataW.trod_int Try.underlying22 h3
    obtain ⟨n4, e4, _, w4⟩ := DataW.trod_int Try.underlying3 h4
    obtain ⟨m3, rfl, hm3⟩ := u64_in w3
    simp at e0 e1 e2 e3 e4
    subst e0 e1 e2 e3 e4
    exact ⟨⟨n0, n1, n2, m3, n4⟩, ⟨i64_in w1, hm3, i64_in w4⟩, rfl⟩

/-- A list of items. -/
theorem items_read {fuel : Nat} {ao : Option Addr} {len cap : Nat} {x : DataW H × List MemPlace} (h : DataW.trod enc Try.prog w 0 (fun _ => true) true fuel 23 [.slice ao len cap] = some x) :
    len ≤ 9223372036854775807 ∧ ∃ X : Nat → It, Items w w.heap.size ao len X ∧ ∀ i, i < len → (X i).ok := by
  rcases open_slice Try.underlying23 h with ⟨hcs, _⟩ | ⟨a, len', cap', m, n, D, Pl, hcs, _, hl, hm, hmm, _, hx⟩
  · simp at hcs
    obtain ⟨rfl, rfl, rfl⟩ := hcs
    exact ⟨by omega, fun _ => default, fun i hi => absurd hi (Nat.not_lt_zero _), fun i hi => absurd hi (Nat.not_lt_zero _)⟩
  · simp at hcs
    obtain ⟨rfl, rfl, rfl⟩ := hcs
    simp only [if_true] at hmm
    rw [Try.cellsAct] at hx
    obtain ⟨X, hX⟩ := choose_lt (α := It) (n := len) (p := fun i it => it.ok ∧ ∀ j v, it.vals[j]? = some v → w.cell? (a.add (i * 5 + j)) = some v) (fun i hi => by
      obtain ⟨cs', h1, h2⟩ := hx i (by omega)
      obtain ⟨it, hok, rfl⟩ := item_cells h2
      obtain ⟨_, hlen, hc⟩ := World.cells?_some h1
      refine ⟨it, hok, fun j v hv => ?_⟩
      have hj : j < 5 := by have := (List.getElem?_eq_some_iff.1 hv).1; rw [hlen] at this; exact this
      rw [← add_add, hc j hj]
      exact hv)
    refine ⟨by unfold maxLen at hm; omega, X, fun i hi => ?_, fun i hi => (hX i hi).1⟩
    obtain ⟨b, off, spot⟩ := a
    have h0 := (hX i hi).2 0 _ rfl
    have hz := (hX 0 (by omega)).2 0 _ rfl
    have hspot : spot = none := by simpa [Addr.add] using World.cell?_spot hz
    clear hz
    subst hspot
    refine ⟨b, off, rfl, ?_, fun j v hv => ?_⟩
    · rw [add_plain] at h0; exact World.block_lt_of_cell? w _ h0
    · have := (hX i hi).2 j v hv
      rw [add_plain] at this
      rw [Nat.add_assoc]
      exact this

/-- A list of bytes. -/
theorem bytes8_read {fuel : Nat} {ao : Option Addr} {len cap : Nat} {x : DataW H × List MemPlace} (h : DataW.trod enc Try.prog w 0 (fun _ => true) true fuel 52 [.slice ao len cap] = some x) :
    len ≤ 9223372036854775807 ∧ ∃ X : Nat → Nat, Bytes8 w w.heap.size ao len X ∧ ∀ i, i < len → X i < 256 := by
  rcases open_slice Try.underlying52 h with ⟨hcs, _⟩ | ⟨a, len', cap', m, n, D, Pl, hcs, _, hl, hm, hmm, _, hx⟩
  · simp at hcs
    obtain ⟨rfl, rfl, rfl⟩ := hcs
    exact ⟨by omega, fun _ => 0, fun i hi => absurd hi (Nat.not_lt_zero _), fun i hi => absurd hi (Nat.not_lt_zero _)⟩
  · simp at hcs
    obtain ⟨rfl, rfl, rfl⟩ := hcs
    simp only [if_true] at hmm
    rw [Try.cellsU8] at hx
    obtain ⟨X, hX⟩ := choose_lt (α := Nat) (n := len) (p := fun i z => z < 256 ∧ w.cell? (a.add i) = some (.int .u8 (z : Nat))) (fun i hi => by
      obtain ⟨cs', h1, h2⟩ := hx i (by omega)
      obtain ⟨z, e, _, wz⟩ := DataW.trod_int Try.underlying5 h2
      obtain ⟨z', rfl, hz⟩ := u8_in wz
      subst e
      obtain ⟨_, hlen, hc⟩ := World.cells?_some h1
      refine ⟨z', hz, ?_⟩
      have := hc 0 (by omega)
      rw [add_add, Nat.mul_one, Nat.add_zero] at this
      exact this)
    refine ⟨by unfold maxLen at hm; omega, X, fun i hi => ?_, fun i hi => (hX i hi).1⟩
    obtain ⟨b, off, spot⟩ := a
    have h0 := (hX i hi).2
    have hz := (hX 0 (by omega)).2
    have hspot : spot = none := by simpa [Addr.add] using World.cell?_spot hz
    clear hz
    subst hspot
    rw [add_plain] at h0
    exact ⟨b, off, rfl, World.block_lt_of_cell? w _ h0, h0⟩
end
end Go.Proofs.Ytlbafmmeglafhaa
