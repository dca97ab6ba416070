/- How an argument of type Node is read: its cells, and its rows. No condition. -/
import Derived.Test.YtkdjcikilabehaaNodeBase
import Derived.Test.YtkdjcikilabehaaSortRead
import Derived.OpenShut
import Derived.Deep.Slices
import Derived.Deep.Fields
namespace Go.Proofs.Ytkdjcikilabehaa
open Go.ChangeShapes Go.WideShapes Go.ChangeAt Go.RowKit Go.Deep Go.ChangeMaps

theorem Try.ownN : ownKnob Try.prog.godebug = none := by kernel_rfl
theorem Try.cellsNode : Try.prog.cellsOf 33 = 8 := by kernel_rfl
theorem Try.cellsN3 : Try.prog.cellsOf 3 = 1 := by kernel_rfl
theorem Try.cellsN9 : Try.prog.cellsOf 9 = 1 := by kernel_rfl
theorem Try.cellsN4 : Try.prog.cellsOf 4 = 1 := by kernel_rfl
theorem Try.cellsNU : Try.prog.cellsOf 22 = 1 := by kernel_rfl
theorem Try.cellsNs : Try.prog.cellsOf 29 = 1 := by kernel_rfl
theorem Try.cellsNu : Try.prog.cellsOf 30 = 1 := by kernel_rfl
theorem Try.cellsNi : Try.prog.cellsOf 31 = 1 := by kernel_rfl

theorem u64_form {n : Int} (h : (Lit.int .u64 n).wf = true) : ∃ m : Nat, n = m ∧ m < 18446744073709551616 := by
  have h1 : IntKind.u64.min = 0 := rfl
  have h2 : IntKind.u64.max = 18446744073709551615 := rfl
  simp only [Lit.wf, Bool.and_eq_true, decide_eq_true_eq] at h
  exact ⟨n.toNat, by omega, by omega⟩

section
variable {H : Type} {enc : TypeId × Value → H} {w : World}

theorem slice_form {fuel : Nat} {t e : TypeId} {v : Value} {x : DataW H × List MemPlace} (ht : Try.prog.underlying t = some (.slice e)) (h : DataW.trod enc Try.prog w 0 (fun _ => true) true fuel t [v] = some x) : ∃ ao n c, v = .slice ao n c := by
  rcases DataW.trod_slice ht h with ⟨e3, _⟩ | ⟨ad, len, cap, elems, rest, m, hnm, e3, _⟩
  · simp at e3; exact ⟨_, _, _, e3⟩
  · simp at e3; exact ⟨_, _, _, e3⟩

/-- A row of words that came in. -/
theorem words_rd {fuel : Nat} {ao : Option Addr} {len cap : Nat} {x : DataW H × List MemPlace} (h : DataW.trod enc Try.prog w 0 (fun _ => true) true fuel 30 [.slice ao len cap] = some x) :
    ∃ vs : List Nat, Rd w (.slice ao len cap) (vs.map uv) := by
  rcases open_slice Try.underlying30 h with ⟨hcs, _⟩ | ⟨a, len', cap', m, n, D, Pl, hcs, _, hl, hm, hmm, _, hx⟩
  · simp at hcs
    obtain ⟨rfl, rfl, rfl⟩ := hcs
    exact ⟨[], Rd.nil _⟩
  · simp at hcs
    obtain ⟨rfl, rfl, rfl⟩ := hcs
    simp only [if_true] at hmm
    rw [Try.cellsNU] at hx
    obtain ⟨X, hX⟩ := choose_lt (α := Nat) (n := len) (p := fun i z => w.cell? (a.add i) = some (.int .u64 (z : Nat))) (fun i hi => by
      obtain ⟨cs', h1, h2⟩ := hx i (by omega)
      obtain ⟨z, e, _, wz⟩ := DataW.trod_int Try.underlying22 h2
      obtain ⟨z', rfl, hz⟩ := u64_form wz
      subst e
      obtain ⟨_, hlen, hc⟩ := World.cells?_some h1
      refine ⟨z', ?_⟩
      have := hc 0 (by omega)
      rw [add_add, Nat.mul_one, Nat.add_zero] at this
      exact this)
    have hbl : (((List.range len).map X).map uv).length = len := by simp
    refine ⟨(List.range len).map X, some a, cap, by rw [hbl], by rw [hbl]; omega, by unfold maxLen at hm; omega, fun hne => ?_⟩
    have hpos : 0 < len := by rw [← hbl]; exact List.length_pos_iff.2 hne
    obtain ⟨b, off, spot⟩ := a
    have hz := hX 0 (by omega)
    have hspot : spot = none := by simpa [Addr.add] using World.cell?_spot hz
    subst hspot
    refine ⟨b, off, rfl, fun j hj => ?_⟩
    rw [hbl] at hj
    have hcj := hX j hj
    rw [add_place] at hcj
    rw [hcj]
    simp [uv]

set_option maxRecDepth 100000 in
set_option maxHeartbeats 1000000 in
theorem node_read {fuel : Nat} {l : List Value} {x : DataW H × List MemPlace} (h : DataW.trod enc Try.prog w 0 (fun _ => true) true fuel 33 l = some x) :
    ∃ (lv nx : Int) (lo hi : ByteArray) (la : Bool) (ak av ac : Option Addr) (nk ck nv cv nc cc : Nat) (ks : List ByteArray) (vs : List Nat) (cs : List Int), l = [.int .i64 lv, .string lo, .string hi, .bool la, .int .i64 nx, .slice ak nk ck, .slice av nv cv, .slice ac nc cc] ∧ NdAt w ak av ac nk ck nv cv nc cc ks vs cs := by
  obtain ⟨xs, n, _, _, hlen, _, hf⟩ := DataW.trod_struct Try.underlying33 h
  rw [Try.cellsNode] at hlen
  match l, hlen with
  | [a, b, c, d, f, g, p, q], _ =>
    have get : ∀ {y : Option (DataW H × List MemPlace)} {t : TypeId} {v : Value}, DataW.trod enc Try.prog w 0 (fun _ => true) true n t [v] = y → (y = none → False) → ∃ z, DataW.trod enc Try.prog w 0 (fun _ => true) true n t [v] = some z := by
      intro y t v hy hn
      cases hy' : DataW.trod enc Try.prog w 0 (fun _ => true) true n t [v] with
      | none => exact (hn (hy.symm.trans hy')).elim
      | some z => exact ⟨z, rfl⟩
    have hxl : xs.length = 8 := by assumption
    have hx : ∀ i, i < 8 → xs[i]? = none → False := fun i hi e => by
      have := List.getElem?_eq_none_iff.1 e
      omega
    obtain ⟨z0, h0⟩ := get (by simpa [Try.cellsN3] using hf 0 _ rfl) (hx 0 (by omega))
    obtain ⟨z1, h1⟩ := get (by simpa [Try.cellsN9] using hf 1 _ rfl) (hx 1 (by omega))
    obtain ⟨z2, h2⟩ := get (by simpa [Try.cellsN9] using hf 2 _ rfl) (hx 2 (by omega))
    obtain ⟨z3, h3⟩ := get (by simpa [Try.cellsN4] using hf 3 _ rfl) (hx 3 (by omega))
    obtain ⟨z4, h4⟩ := get (by simpa [Try.cellsN3] using hf 4 _ rfl) (hx 4 (by omega))
    obtain ⟨z5, h5⟩ := get (by simpa [Try.cellsNs] using hf 5 _ rfl) (hx 5 (by omega))
    obtain ⟨z6, h6⟩ := get (by simpa [Try.cellsNu] using hf 6 _ rfl) (hx 6 (by omega))
    obtain ⟨z7, h7⟩ := get (by simpa [Try.cellsNi] using hf 7 _ rfl) (hx 7 (by omega))
    obtain ⟨n0, e0, _, w0⟩ := DataW.trod_int Try.underlying3 h0
    obtain ⟨s1, e1, _, w1⟩ := DataW.trod_string Try.underlying9 h1
    obtain ⟨s2, e2, _, w2⟩ := DataW.trod_string Try.underlying9 h2
    obtain ⟨b3, e3, _⟩ := DataW.trod_bool Try.underlying4 h3
    obtain ⟨n4, e4, _, w4⟩ := DataW.trod_int Try.underlying3 h4
    obtain ⟨ak, nk, ck, rfl⟩ := slice_form Try.underlying29 h5
    obtain ⟨av, nv, cv, rfl⟩ := slice_form Try.underlying30 h6
    obtain ⟨ac, nc, cc, rfl⟩ := slice_form Try.underlying31 h7
    obtain ⟨ks, hk⟩ := texts_read h5
    obtain ⟨vs, hv⟩ := words_rd h6
    obtain ⟨cs, hc, _⟩ := ints_read h7
    simp at e0 e1 e2 e3 e4
    subst e0 e1 e2 e3 e4
    exact ⟨_, _, _, _, _, _, _, _, _, _, _, _, _, _, ks, vs, cs, rfl, hk, hv, hc⟩
end
end Go.Proofs.Ytkdjcikilabehaa
