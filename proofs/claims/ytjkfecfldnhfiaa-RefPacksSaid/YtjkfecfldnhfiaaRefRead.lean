/- How the arguments of ref's laws are read. No condition. -/
import Derived.Test.YtjkfecfldnhfiaaRefMath
import Derived.ProofKit
import Derived.ChangeMaps5
import Derived.Carry
import Derived.OpenShut
import Derived.Deep.Slices
import Derived.Deep.Fields
namespace Go.Proofs.Ytjkfecfldnhfiaa
open Go.ChangeShapes Go.WideShapes Go.ChangeAt Go.RowKit Go.ChangeMaps Go.Deep

theorem Try.ownR : ownKnob Try.prog.godebug = none := by kernel_rfl
theorem Try.laidOutR : laidOutB Try.prog = true := by kernel_rfl
theorem Try.cellsGate : Try.prog.cellsOf 29 = 3 := by kernel_rfl
theorem Try.cellsInt7 : Try.prog.cellsOf 3 = 1 := by kernel_rfl
theorem Try.cellsU7 : Try.prog.cellsOf 22 = 1 := by kernel_rfl

theorem i64_in {n : Int} (h : (Lit.int .i64 n).wf = true) : -9223372036854775808 ≤ n ∧ n ≤ 9223372036854775807 := by
  have h1 : IntKind.i64.min = -9223372036854775808 := rfl
  have h2 : IntKind.i64.max = 9223372036854775807 := rfl
  simp only [Lit.wf, Bool.and_eq_true, decide_eq_true_eq] at h
  omega
theorem u64_in {n : Int} (h : (Lit.int .u64 n).wf = true) : ∃ m : Nat, n = m ∧ m < 18446744073709551616 := by
  have h1 : IntKind.u64.min = 0 := rfl
  have h2 : IntKind.u64.max = 18446744073709551615 := rfl
  simp only [Lit.wf, Bool.and_eq_true, decide_eq_true_eq] at h
  exact ⟨n.toNat, by omega, by omega⟩

section
variable {H : Type} {enc : TypeId × Value → H} {w : World}

/-- How a gate that came in is read. -/
theorem gate_read {fuel : Nat} {cs : List Value} {x : DataW H × List MemPlace} (h : DataW.trod enc Try.prog w 0 (fun _ => true) true fuel 29 cs = some x) :
    ∃ (s t : Int) (r : Nat), cs = [.int .i64 s, .int .i64 t, .int .u64 r] ∧ (-9223372036854775808 ≤ s ∧ s ≤ 9223372036854775807) ∧ (-9223372036854775808 ≤ t ∧ t ≤ 9223372036854775807) ∧ r < 18446744073709551616 := by
  obtain ⟨xs, n, _, _, hlen, hxl, hf⟩ := DataW.trod_struct Try.underlying29 h
  rw [Try.cellsGate] at hlen
  match cs, hlen with
  | [a, b, c], _ =>
    have get : ∀ {y : Option (DataW H × List MemPlace)} {t : TypeId} {v : Value}, DataW.trod enc Try.prog w 0 (fun _ => true) true n t [v] = y → (y = none → False) → ∃ z, DataW.trod enc Try.prog w 0 (fun _ => true) true n t [v] = some z := by
      intro y t v hy hn
      cases hy' : DataW.trod enc Try.prog w 0 (fun _ => true) true n t [v] with
      | none => exact (hn (hy.symm.trans hy')).elim
      | some z => exact ⟨z, rfl⟩
    have hx : ∀ i, i < 3 → xs[i]? = none → False := fun i hi e => by
      have := List.getElem?_eq_none_iff.1 e
      rw [hxl] at this
      simp at this
      omega
    obtain ⟨z0, h0⟩ := get (by simpa [Try.cellsInt7] using hf 0 _ rfl) (hx 0 (by omega))
    obtain ⟨z1, h1⟩ := get (by simpa [Try.cellsInt7] using hf 1 _ rfl) (hx 1 (by omega))
    obtain ⟨z2, h2⟩ := get (by simpa [Try.cellsU7] using hf 2 _ rfl) (hx 2 (by omega))
    obtain ⟨n0, e0, _, w0⟩ := DataW.trod_int Try.underlying3 h0
    obtain ⟨n1, e1, _, w1⟩ := DataW.trod_int Try.underlying3 h1
    obtain ⟨n2, e2, _, w2⟩ := DataW.trod_int Try.underlying22 h2
    obtain ⟨m, rfl, hm⟩ := u64_in w2
    simp at e0 e1 e2
    subst e0 e1 e2
    exact ⟨n0, n1, m, rfl, i64_in w0, i64_in w1, hm⟩
end
end Go.Proofs.Ytjkfecfldnhfiaa
