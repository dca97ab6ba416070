/- How a list of pairs is read: the cells, and their bounds. No condition. -/
import Derived.Test.YtgckgagnodkhjaaRRRRDoorPairRows
import Derived.SliceStrings
import Derived.ChangeSlices
import Derived.ProofKit
import Derived.Deep.Slices
import Derived.Deep.Fields
import Derived.ChangeMaps5
import Derived.OpenShut
namespace Go.Proofs.YtgckgagnodkhjaaRRRRDoor
open Go.ChangeShapes Go.WideShapes Go.ChangeAt Go.RowKit Go.Deep

theorem i64_bounds {n : Int} (h : (Lit.int .i64 n).wf = true) : -9223372036854775808 ≤ n ∧ n ≤ 9223372036854775807 := by
  have h1 : IntKind.i64.min = -9223372036854775808 := rfl
  have h2 : IntKind.i64.max = 9223372036854775807 := rfl
  simp only [Lit.wf, Bool.and_eq_true, decide_eq_true_eq] at h
  omega
theorem u64_bounds {n : Int} (h : (Lit.int .u64 n).wf = true) : 0 ≤ n ∧ n < 18446744073709551616 := by
  have h1 : IntKind.u64.min = 0 := rfl
  have h2 : IntKind.u64.max = 18446744073709551615 := rfl
  simp only [Lit.wf, Bool.and_eq_true, decide_eq_true_eq] at h
  omega

theorem Tryd.cellsP1 : Tryd.prog.cellsOf 9 = 1 := by kernel_rfl
theorem Tryd.cellsP2 : Tryd.prog.cellsOf 22 = 1 := by kernel_rfl
section
variable {H : Type} {enc : TypeId × Value → H} {w : World} {base : Nat} {spare : Nat → Bool} {held : Bool}

theorem Tryd.cellsPair : Tryd.prog.cellsOf 32 = 2 := by kernel_rfl

/-- The cells of one pair. -/
theorem pair_cells {fuel : Nat} {cs : List Value} {x : DataW H × List MemPlace} (h : DataW.trod enc Tryd.prog w base spare held fuel 32 cs = some x) : ∃ p : ByteArray × Int, (p.1.size ≤ 9223372036854775807 ∧ 0 ≤ p.2 ∧ p.2 < 18446744073709551616) ∧ cs = [.string p.1, .int .u64 p.2] := by
  obtain ⟨xs, n, _, _, hlen, _, hf⟩ := DataW.trod_struct Tryd.underlying32 h
  rw [Tryd.cellsPair] at hlen
  match cs, hlen with
  | [a, b], _ =>
    have get : ∀ {y : Option (DataW H × List MemPlace)} {t : TypeId} {v : Value}, DataW.trod enc Tryd.prog w base spare held n t [v] = y → (y = none → False) → ∃ z, DataW.trod enc Tryd.prog w base spare held n t [v] = some z := by
      intro y t v hy hn
      cases hy' : DataW.trod enc Tryd.prog w base spare held n t [v] with
      | none => exact (hn (hy.symm.trans hy')).elim
      | some z => exact ⟨z, rfl⟩
    have hxl : xs.length = 2 := by assumption
    have hx : ∀ i, i < 2 → xs[i]? = none → False := fun i hi e => by
      have := List.getElem?_eq_none_iff.1 e
      omega
    obtain ⟨z0, h0⟩ := get (by simpa [Tryd.cellsP1] using hf 0 _ rfl) (hx 0 (by omega))
    obtain ⟨z1, h1⟩ := get (by simpa [Tryd.cellsP2] using hf 1 _ rfl) (hx 1 (by omega))
    obtain ⟨s, e0, _, ws⟩ := DataW.trod_string Tryd.underlying9 h0
    obtain ⟨z, e1, _, wz⟩ := DataW.trod_int Tryd.underlying22 h1
    have bz := u64_bounds wz
    simp at e0 e1
    subst e0 e1
    exact ⟨(s, z), ⟨by simpa [maxLen] using ws, bz⟩, rfl⟩

/-- A list of pairs. -/
theorem pairs_read {fuel : Nat} {ao : Option Addr} {len cap : Nat} {x : DataW H × List MemPlace} (h : DataW.trod enc Tryd.prog w 0 (fun _ => true) true fuel 23 [.slice ao len cap] = some x) :
    ∃ ps : List (ByteArray × Int), RdP w (.slice ao len cap) ps ∧ ∀ p ∈ ps, p.1.size ≤ 9223372036854775807 ∧ 0 ≤ p.2 ∧ p.2 < 18446744073709551616 := by
  rcases open_slice Tryd.underlying23 h with ⟨hcs, _⟩ | ⟨a, len', cap', m, n, D, Pl, hcs, _, hl, hm, hmm, _, hx⟩
  · simp at hcs
    obtain ⟨rfl, rfl, rfl⟩ := hcs
    exact ⟨[], ⟨none, 0, rfl, Nat.le_refl _, by omega, fun h => absurd h (by simp)⟩, fun p hp => by cases hp⟩
  · simp at hcs
    obtain ⟨rfl, rfl, rfl⟩ := hcs
    simp only [if_true] at hmm
    rw [Tryd.cellsPair] at hx
    obtain ⟨X, hX⟩ := choose_lt (α := ByteArray × Int) (n := len) (p := fun i p => (p.1.size ≤ 9223372036854775807 ∧ 0 ≤ p.2 ∧ p.2 < 18446744073709551616) ∧ w.cell? (a.add (i * 2)) = some (.string p.1) ∧ w.cell? (a.add (i * 2 + 1)) = some (.int .u64 p.2)) (fun i hi => by
      obtain ⟨cs', h1, h2⟩ := hx i (by omega)
      obtain ⟨p, hok, rfl⟩ := pair_cells h2
      obtain ⟨_, hlen, hc⟩ := World.cells?_some h1
      refine ⟨p, hok, ?_, ?_⟩
      · have := hc 0 (by omega)
        rwa [add_add, Nat.add_zero] at this
      · have := hc 1 (by omega)
        rwa [add_add] at this)
    have hlen : ((List.range len).map X).length = len := by simp
    have hntp : ∀ j, j < len → ntp ((List.range len).map X) j = X j := fun j hj => by rw [ntp_eq (by rw [hlen]; exact hj)]; simp
    refine ⟨(List.range len).map X, ⟨some a, cap, by rw [hlen], by rw [hlen]; exact hl, by unfold maxLen at hm; omega, fun hp => ?_⟩, fun p hp => ?_⟩
    · rw [hlen] at hp
      obtain ⟨b, off, spot⟩ := a
      have hz := (hX 0 hp).2.1
      have hspot : spot = none := by simpa [Addr.add] using World.cell?_spot hz
      clear hz
      subst hspot
      refine ⟨b, off, rfl, fun j hj => ?_⟩
      rw [hlen] at hj
      have h3 := (hX j hj).2
      rw [add_plain, add_plain] at h3
      rw [hntp j hj]
      exact ⟨h3.1, by rw [Nat.add_assoc]; exact h3.2⟩
    · obtain ⟨i, hi, rfl⟩ := List.mem_map.1 hp
      exact (hX i (by simpa using hi)).1
end
end Go.Proofs.YtgckgagnodkhjaaRRRRDoor
