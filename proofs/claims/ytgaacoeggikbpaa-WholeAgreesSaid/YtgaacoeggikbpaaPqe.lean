/- How a row that came in is read: texts, numbers. How an argument of type Node is read: its cells, and its rows. No condition. How an argument of type Known is read. No condition. How an argument that is a row of Knowns is read; its numbers are numbers. No condition. -/
import Derived.Test.YtgaacoeggikbpaaRowFacts
import Derived.SliceStrings
import Derived.ChangeSlices
import Derived.ProofKit
import Derived.ChangeMaps5
import Derived.Carry
import Derived.Test.YtgaacoeggikbpaaNodeBase
import Derived.OpenShut
import Derived.Deep.Slices
import Derived.Deep.Fields
import Derived.Test.YtgaacoeggikbpaaPq4
namespace Go.Proofs.Ytgaacoeggikbpaa
open Go.ChangeShapes Go.WideShapes Go.ChangeAt Go.RowKit Go.ChangeMaps

theorem Try.cellsT : Try.prog.cellsOf 9 = 1 := by kernel_rfl
theorem Try.cellsI : Try.prog.cellsOf 3 = 1 := by kernel_rfl

theorem Try.laidOut : laidOutB Try.prog = true := by kernel_rfl

theorem add_place (g o n : Nat) : (⟨g, o, none⟩ : Addr).add n = ⟨g, o + n, none⟩ := by
  by_cases h : n = 0
  · subst h; simp [Addr.add]
  · simp [Addr.add, h]

/-- A row of texts that came in. -/
theorem texts_read {H : Type} {enc : TypeId × Value → H} {w : World} {fuel : Nat} {ao : Option Addr} {len cap : Nat} {x : DataW H × List MemPlace} (h : DataW.trod enc Try.prog w 0 (fun _ => true) true fuel 34 [.slice ao len cap] = some x) :
    ∃ xs : List ByteArray, Rd w (.slice ao len cap) (xs.map Value.string) := by
  rcases open_strings Try.underlying34 Try.underlying9 Try.cellsT h with ⟨hcs, _⟩ | ⟨a, len', cap', ss, hcs, _, hl, hm, hz, _, hc, _⟩
  · simp at hcs
    obtain ⟨rfl, rfl, rfl⟩ := hcs
    exact ⟨[], Rd.nil _⟩
  · simp at hcs
    obtain ⟨rfl, rfl, rfl⟩ := hcs
    simp only [if_true] at hz
    have hbl : ((ss.take len).map Value.string).length = len := by rw [List.length_map, List.length_take]; omega
    refine ⟨ss.take len, some a, cap, by rw [hbl], by rw [hbl]; exact hl, by unfold maxLen at hm; omega, fun hne => ?_⟩
    have hpos : 0 < len := by rw [← hbl]; exact List.length_pos_iff.2 hne
    obtain ⟨b, off, spot⟩ := a
    have h0 := hc 0 (by omega)
    have hspot : spot = none := by simpa [Addr.add] using World.cell?_spot h0
    subst hspot
    refine ⟨b, off, rfl, fun j hj => ?_⟩
    rw [hbl] at hj
    have hcj := hc j (by omega)
    rw [add_place] at hcj
    rw [hcj]
    simp [List.getD_eq_getElem?_getD, List.getElem?_eq_getElem (show j < ss.length by omega)]

/-- A row of numbers that came in. -/
theorem ints_read {H : Type} {enc : TypeId × Value → H} {w : World} {fuel : Nat} {ao : Option Addr} {len cap : Nat} {x : DataW H × List MemPlace} (h : DataW.trod enc Try.prog w 0 (fun _ => true) true fuel 36 [.slice ao len cap] = some x) :
    ∃ zs : List Int, Rd w (.slice ao len cap) (zs.map (Value.int .i64)) ∧ (∀ z ∈ zs, (Lit.int .i64 z).wf = true) ∧ (ao = none → cap = 0) := by
  rcases open_ints Try.underlying36 Try.underlying3 Try.cellsI h with ⟨hcs, _⟩ | ⟨a, len', cap', zs, hcs, _, hl, hm, hz, _, hc, hwf⟩
  · simp at hcs
    obtain ⟨rfl, rfl, rfl⟩ := hcs
    exact ⟨[], Rd.nil _, (fun z hz => by cases hz), fun _ => rfl⟩
  · simp at hcs
    obtain ⟨rfl, rfl, rfl⟩ := hcs
    simp only [if_true] at hz
    have hbl : ((zs.take len).map (Value.int .i64)).length = len := by rw [List.length_map, List.length_take]; omega
    refine ⟨zs.take len, ⟨some a, cap, by rw [hbl], by rw [hbl]; exact hl, by unfold maxLen at hm; omega, fun hne => ?_⟩, fun z hz => hwf z (List.mem_of_mem_take hz), fun h => by cases h⟩
    have hpos : 0 < len := by rw [← hbl]; exact List.length_pos_iff.2 hne
    obtain ⟨b, off, spot⟩ := a
    have h0 := hc 0 (by omega)
    have hspot : spot = none := by simpa [Addr.add] using World.cell?_spot h0
    subst hspot
    refine ⟨b, off, rfl, fun j hj => ?_⟩
    rw [hbl] at hj
    have hcj := hc j (by omega)
    rw [add_place] at hcj
    rw [hcj]
    simp [List.getD_eq_getElem?_getD, List.getElem?_eq_getElem (show j < zs.length by omega)]
end Go.Proofs.Ytgaacoeggikbpaa

namespace Go.Proofs.Ytgaacoeggikbpaa
open Go.ChangeShapes Go.WideShapes Go.ChangeAt Go.RowKit Go.Deep Go.ChangeMaps

theorem Try.ownN : ownKnob Try.prog.godebug = none := by kernel_rfl
theorem Try.cellsNode : Try.prog.cellsOf 38 = 8 := by kernel_rfl
theorem Try.cellsN3 : Try.prog.cellsOf 3 = 1 := by kernel_rfl
theorem Try.cellsN9 : Try.prog.cellsOf 9 = 1 := by kernel_rfl
theorem Try.cellsN4 : Try.prog.cellsOf 4 = 1 := by kernel_rfl
theorem Try.cellsNU : Try.prog.cellsOf 30 = 1 := by kernel_rfl
theorem Try.cellsNs : Try.prog.cellsOf 34 = 1 := by kernel_rfl
theorem Try.cellsNu : Try.prog.cellsOf 35 = 1 := by kernel_rfl
theorem Try.cellsNi : Try.prog.cellsOf 36 = 1 := by kernel_rfl

theorem u64_form {n : Int} (h : (Lit.int .u64 n).wf = true) : ∃ m : Nat, n = m ∧ m < 18446744073709551616 := by
  have h1 : IntKind.u64.min = 0 := rfl
  have h2 : IntKind.u64.max = 18446744073709551615 := rfl
  simp only [Lit.wf, Bool.and_eq_true, decide_eq_true_eq] at h
  exact ⟨n.toNat, by omega, by omega⟩

section
variable {H : Type} {enc : TypeId × Value → H} {w : World}

theorem slice_form {fuel : Nat} {t e : TypeId} {v : Value} {x : DataW H × List MemPlace} (ht : Try.prog.underlying t = some (.slice e)) (h : DataW.trod enc Try.prog w 0 (fun _ => true) true fuel t [v] = some x) : ∃ ao n c, v = .slice ao n c := by
  rcases DataW.trod_slice ht h with ⟨e3, _⟩ | ⟨ad, len, cap, elems, rest, m, hnm, e3, _⟩
  · simp at e3; exact ⟨_, _, _, e3⟩
  · simp at e3; exact ⟨_, _, _, e3⟩

/-- A row of words that came in. -/
theorem words_rd {fuel : Nat} {ao : Option Addr} {len cap : Nat} {x : DataW H × List MemPlace} (h : DataW.trod enc Try.prog w 0 (fun _ => true) true fuel 35 [.slice ao len cap] = some x) :
    ∃ vs : List Nat, Rd w (.slice ao len cap) (vs.map uv) := by
  rcases open_slice Try.underlying35 h with ⟨hcs, _⟩ | ⟨a, len', cap', m, n, D, Pl, hcs, _, hl, hm, hmm, _, hx⟩
  · simp at hcs
    obtain ⟨rfl, rfl, rfl⟩ := hcs
    exact ⟨[], Rd.nil _⟩
  · simp at hcs
    obtain ⟨rfl, rfl, rfl⟩ := hcs
    simp only [if_true] at hmm
    rw [Try.cellsNU] at hx
    obtain ⟨X, hX⟩ := choose_lt (α := Nat) (n := len) (p := fun i z => w.cell? (a.add i) = some (.int .u64 (z : Nat))) (fun i hi => by
      obtain ⟨cs', h1, h2⟩ := hx i (by omega)
      obtain ⟨z, e, _, wz⟩ := DataW.trod_int Try.underlying30 h2
      obtain ⟨z', rfl, hz⟩ := u64_form wz
      subst e
      obtain ⟨_, hlen, hc⟩ := World.cells?_some h1
      refine ⟨z', ?_⟩
      have := hc 0 (by omega)
      rw [add_add, Nat.mul_one, Nat.add_zero] at this
      exact this)
    have hbl : (((List.range len).map X).map uv).length = len := by simp
    refine ⟨(List.range len).map X, some a, cap, by rw [hbl], by rw [hbl]; omega, by unfold maxLen at hm; omega, fun hne => ?_⟩
    have hpos : 0 < len := by rw [← hbl]; exact List.length_pos_iff.2 hne
    obtain ⟨b, off, spot⟩ := a
    have hz := hX 0 (by omega)
    have hspot : spot = none := by simpa [Addr.add] using World.cell?_spot hz
    subst hspot
    refine ⟨b, off, rfl, fun j hj => ?_⟩
    rw [hbl] at hj
    have hcj := hX j hj
    rw [add_place] at hcj
    rw [hcj]
    simp [uv]

set_option maxRecDepth 100000 in
set_option maxHeartbeats 1000000 in
theorem node_read {fuel : Nat} {l : List Value} {x : DataW H × List MemPlace} (h : DataW.trod enc Try.prog w 0 (fun _ => true) true fuel 38 l = some x) :
    ∃ (lv nx : Int) (lo hi : ByteArray) (la : Bool) (ak av ac : Option Addr) (nk ck nv cv nc cc : Nat) (ks : List ByteArray) (vs : List Nat) (cs : List Int), l = [.int .i64 lv, .string lo, .string hi, .bool la, .int .i64 nx, .slice ak nk ck, .slice av nv cv, .slice ac nc cc] ∧ NdAt w ak av ac nk ck nv cv nc cc ks vs cs := by
  obtain ⟨xs, n, _, _, hlen, _, hf⟩ := DataW.trod_struct Try.underlying38 h
  rw [Try.cellsNode] at hlen
  match l, hlen with
  | [a, b, c, d, f, g, p, q], _ =>
    have get : ∀ {y : Option (DataW H × List MemPlace)} {t : TypeId} {v : Value}, DataW.trod enc Try.prog w 0 (fun _ => true) true n t [v] = y → (y = none → False) → ∃ z, DataW.trod enc Try.prog w 0 (fun _ => true) true n t [v] = some z := by
      intro y t v hy hn
      cases hy' : DataW.trod enc Try.prog w 0 (fun _ => true) true n t [v] with
      | none => exact (hn (hy.symm.trans hy')).elim
      | some z => exact ⟨z, rfl⟩
    have hxl : xs.length = 8 := by assumption
    have hx : ∀ i, i < 8 → xs[i]? = none → False := fun i hi e => by
      have := List.getElem?_eq_none_iff.1 e
      omega
    obtain ⟨z0, h0⟩ := get (by simpa [Try.cellsN3] using hf 0 _ rfl) (hx 0 (by omega))
    obtain ⟨z1, h1⟩ := get (by simpa [Try.cellsN9] using hf 1 _ rfl) (hx 1 (by omega))
    obtain ⟨z2, h2⟩ := get (by simpa [Try.cellsN9] using hf 2 _ rfl) (hx 2 (by omega))
    obtain ⟨z3, h3⟩ := get (by simpa [Try.cellsN4] using hf 3 _ rfl) (hx 3 (by omega))
    obtain ⟨z4, h4⟩ := get (by simpa [Try.cellsN3] using hf 4 _ rfl) (hx 4 (by omega))
    obtain ⟨z5, h5⟩ := get (by simpa [Try.cellsNs] using hf 5 _ rfl) (hx 5 (by omega))
    obtain ⟨z6, h6⟩ := get (by simpa [Try.cellsNu] using hf 6 _ rfl) (hx 6 (by omega))
    obtain ⟨z7, h7⟩ := get (by simpa [Try.cellsNi] using hf 7 _ rfl) (hx 7 (by omega))
    obtain ⟨n0, e0, _, w0⟩ := DataW.trod_int Try.underlying3 h0
    obtain ⟨s1, e1, _, w1⟩ := DataW.trod_string Try.underlying9 h1
    obtain ⟨s2, e2, _, w2⟩ := DataW.trod_string Try.underlying9 h2
    obtain ⟨b3, e3, _⟩ := DataW.trod_bool Try.underlying4 h3
    obtain ⟨n4, e4, _, w4⟩ := DataW.trod_int Try.underlying3 h4
    obtain ⟨ak, nk, ck, rfl⟩ := slice_form Try.underlying34 h5
    obtain ⟨av, nv, cv, rfl⟩ := slice_form Try.underlying35 h6
    obtain ⟨ac, nc, cc, rfl⟩ := slice_form Try.underlying36 h7
    obtain ⟨ks, hk⟩ := texts_read h5
    obtain ⟨vs, hv⟩ := words_rd h6
    obtain ⟨cs, hc, _⟩ := ints_read h7
    simp at e0 e1 e2 e3 e4
    subst e0 e1 e2 e3 e4
    exact ⟨_, _, _, _, _, _, _, _, _, _, _, _, _, _, ks, vs, cs, rfl, hk, hv, hc⟩
end
end Go.Proofs.Ytgaacoeggikbpaa

namespace Go.Proofs.Ytgaacoeggikbpaa
open Go.ChangeShapes Go.WideShapes Go.ChangeAt Go.RowKit Go.Deep Go.ChangeMaps

theorem Try.cellsKnown : Try.prog.cellsOf 40 = 11 := by kernel_rfl

section
variable {H : Type} {enc : TypeId × Value → H} {w : World}
set_option maxRecDepth 100000 in
set_option maxHeartbeats 1000000 in
theorem known_read {fuel : Nat} {l : List Value} {x : DataW H × List MemPlace} (h : DataW.trod enc Try.prog w 0 (fun _ => true) true fuel 40 l = some x) :
    ∃ (kc kw kv lv nx : Int) (lo hi : ByteArray) (la : Bool) (ak av ac : Option Addr) (nk ck nv cv nc cc : Nat) (ks : List ByteArray) (vs : List Nat) (cs : List Int), l = [.int .i64 kc, .int .u64 kw, .int .u64 kv, .int .i64 lv, .string lo, .string hi, .bool la, .int .i64 nx, .slice ak nk ck, .slice av nv cv, .slice ac nc cc] ∧ NdAt w ak av ac nk ck nv cv nc cc ks vs cs := by
  obtain ⟨xs, n, _, _, hlen, _, hf⟩ := DataW.trod_struct Try.underlying40 h
  rw [Try.cellsKnown] at hlen
  match l, hlen with
  | [a, b, c, d0, d1, d2, d3, d4, d5, d6, d7], _ =>
    have get : ∀ {y : Option (DataW H × List MemPlace)} {t : TypeId} {v : List Value}, DataW.trod enc Try.prog w 0 (fun _ => true) true n t v = y → (y = none → False) → ∃ z, DataW.trod enc Try.prog w 0 (fun _ => true) true n t v = some z := by
      intro y t v hy hn
      cases hy' : DataW.trod enc Try.prog w 0 (fun _ => true) true n t v with
      | none => exact (hn (hy.symm.trans hy')).elim
      | some z => exact ⟨z, rfl⟩
    have hxl : xs.length = 4 := by assumption
    have hx : ∀ i, i < 4 → xs[i]? = none → False := fun i hi e => by
      have := List.getElem?_eq_none_iff.1 e
      omega
    obtain ⟨z0, h0⟩ := get (v := [a]) (by simpa [Try.cellsN3] using hf 0 _ rfl) (hx 0 (by omega))
    obtain ⟨z1, h1⟩ := get (v := [b]) (by simpa [Try.cellsN3, Try.cellsNU] using hf 1 _ rfl) (hx 1 (by omega))
    obtain ⟨z2, h2⟩ := get (v := [c]) (by simpa [Try.cellsN3, Try.cellsNU] using hf 2 _ rfl) (hx 2 (by omega))
    obtain ⟨z3, h3⟩ := get (v := [d0, d1, d2, d3, d4, d5, d6, d7]) (by simpa [Try.cellsN3, Try.cellsNU, Try.cellsNode] using hf 3 _ rfl) (hx 3 (by omega))
    obtain ⟨n0, e0, _, w0⟩ := DataW.trod_int Try.underlying3 h0
    obtain ⟨n1, e1, _, w1⟩ := DataW.trod_int Try.underlying30 h1
    obtain ⟨n2, e2, _, w2⟩ := DataW.trod_int Try.underlying30 h2
    obtain ⟨lv, nx, lo, hi, la, ak, av, ac, nk, ck, nv, cv, nc, cc, ks, vs, cs, hcs, hN⟩ := node_read h3
    simp at e0 e1 e2 hcs
    obtain ⟨rfl, rfl, rfl, rfl, rfl, rfl, rfl, rfl⟩ := hcs
    subst e0 e1 e2
    exact ⟨_, _, _, _, _, _, _, _, _, _, _, _, _, _, _, _, _, ks, vs, cs, rfl, hN⟩
end
end Go.Proofs.Ytgaacoeggikbpaa

namespace Go.Proofs.Ytgaacoeggikbpaa
open Go.ChangeShapes Go.WideShapes Go.ChangeAt Go.RowKit Go.Deep Go.ChangeMaps

section
variable {H : Type} {enc : TypeId × Value → H} {w : World}
set_option maxRecDepth 100000 in
set_option maxHeartbeats 1000000 in
theorem node_readw {fuel : Nat} {l : List Value} {x : DataW H × List MemPlace} (h : DataW.trod enc Try.prog w 0 (fun _ => true) true fuel 38 l = some x) :
    ∃ (lv nx : Int) (lo hi : ByteArray) (la : Bool) (ak av ac : Option Addr) (nk ck nv cv nc cc : Nat) (ks : List ByteArray) (vs : List Nat) (cs : List Int), l = [.int .i64 lv, .string lo, .string hi, .bool la, .int .i64 nx, .slice ak nk ck, .slice av nv cv, .slice ac nc cc] ∧ NdAt w ak av ac nk ck nv cv nc cc ks vs cs ∧ (Lit.int .i64 nx).wf = true ∧ ∀ z ∈ cs, (Lit.int .i64 z).wf = true := by
  obtain ⟨xs, n, _, _, hlen, _, hf⟩ := DataW.trod_struct Try.underlying38 h
  rw [Try.cellsNode] at hlen
  match l, hlen with
  | [a, b, c, d, f, g, p, q], _ =>
    have get : ∀ {y : Option (DataW H × List MemPlace)} {t : TypeId} {v : Value}, DataW.trod enc Try.prog w 0 (fun _ => true) true n t [v] = y → (y = none → False) → ∃ z, DataW.trod enc Try.prog w 0 (fun _ => true) true n t [v] = some z := by
      intro y t v hy hn
      cases hy' : DataW.trod enc Try.prog w 0 (fun _ => true) true n t [v] with
      | none => exact (hn (hy.symm.trans hy')).elim
      | some z => exact ⟨z, rfl⟩
    have hxl : xs.length = 8 := by assumption
    have hx : ∀ i, i < 8 → xs[i]? = none → False := fun i hi e => by
      have := List.getElem?_eq_none_iff.1 e
      omega
    obtain ⟨z0, h0⟩ := get (by simpa [Try.cellsN3] using hf 0 _ rfl) (hx 0 (by omega))
    obtain ⟨z1, h1⟩ := get (by simpa [Try.cellsN9] using hf 1 _ rfl) (hx 1 (by omega))
    obtain ⟨z2, h2⟩ := get (by simpa [Try.cellsN9] using hf 2 _ rfl) (hx 2 (by omega))
    obtain ⟨z3, h3⟩ := get (by simpa [Try.cellsN4] using hf 3 _ rfl) (hx 3 (by omega))
    obtain ⟨z4, h4⟩ := get (by simpa [Try.cellsN3] using hf 4 _ rfl) (hx 4 (by omega))
    obtain ⟨z5, h5⟩ := get (by simpa [Try.cellsNs] using hf 5 _ rfl) (hx 5 (by omega))
    obtain ⟨z6, h6⟩ := get (by simpa [Try.cellsNu] using hf 6 _ rfl) (hx 6 (by omega))
    obtain ⟨z7, h7⟩ := get (by simpa [Try.cellsNi] using hf 7 _ rfl) (hx 7 (by omega))
    obtain ⟨n0, e0, _, w0⟩ := DataW.trod_int Try.underlying3 h0
    obtain ⟨s1, e1, _, w1⟩ := DataW.trod_string Try.underlying9 h1
    obtain ⟨s2, e2, _, w2⟩ := DataW.trod_string Try.underlying9 h2
    obtain ⟨b3, e3, _⟩ := DataW.trod_bool Try.underlying4 h3
    obtain ⟨n4, e4, _, w4⟩ := DataW.trod_int Try.underlying3 h4
    obtain ⟨ak, nk, ck, rfl⟩ := slice_form Try.underlying34 h5
    obtain ⟨av, nv, cv, rfl⟩ := slice_form Try.underlying35 h6
    obtain ⟨ac, nc, cc, rfl⟩ := slice_form Try.underlying36 h7
    obtain ⟨ks, hk⟩ := texts_read h5
    obtain ⟨vs, hv⟩ := words_rd h6
    obtain ⟨cs, hc, hwz, _⟩ := ints_read h7
    simp at e0 e1 e2 e3 e4
    subst e0 e1 e2 e3 e4
    exact ⟨_, _, _, _, _, _, _, _, _, _, _, _, _, _, ks, vs, cs, rfl, ⟨hk, hv, hc⟩, w4, hwz⟩
set_option maxRecDepth 100000 in
set_option maxHeartbeats 1000000 in
theorem known_readw {fuel : Nat} {l : List Value} {x : DataW H × List MemPlace} (h : DataW.trod enc Try.prog w 0 (fun _ => true) true fuel 40 l = some x) :
    ∃ (kc kw kv lv nx : Int) (lo hi : ByteArray) (la : Bool) (ak av ac : Option Addr) (nk ck nv cv nc cc : Nat) (ks : List ByteArray) (vs : List Nat) (cs : List Int), l = [.int .i64 kc, .int .u64 kw, .int .u64 kv, .int .i64 lv, .string lo, .string hi, .bool la, .int .i64 nx, .slice ak nk ck, .slice av nv cv, .slice ac nc cc] ∧ NdAt w ak av ac nk ck nv cv nc cc ks vs cs ∧ (Lit.int .i64 kc).wf = true ∧ (Lit.int .i64 nx).wf = true ∧ ∀ z ∈ cs, (Lit.int .i64 z).wf = true := by
  obtain ⟨xs, n, _, _, hlen, _, hf⟩ := DataW.trod_struct Try.underlying40 h
  rw [Try.cellsKnown] at hlen
  match l, hlen with
  | [a, b, c, d0, d1, d2, d3, d4, d5, d6, d7], _ =>
    have get : ∀ {y : Option (DataW H × List MemPlace)} {t : TypeId} {v : List Value}, DataW.trod enc Try.prog w 0 (fun _ => true) true n t v = y → (y = none → False) → ∃ z, DataW.trod enc Try.prog w 0 (fun _ => true) true n t v = some z := by
      intro y t v hy hn
      cases hy' : DataW.trod enc Try.prog w 0 (fun _ => true) true n t v with
      | none => exact (hn (hy.symm.trans hy')).elim
      | some z => exact ⟨z, rfl⟩
    have hxl : xs.length = 4 := by assumption
    have hx : ∀ i, i < 4 → xs[i]? = none → False := fun i hi e => by
      have := List.getElem?_eq_none_iff.1 e
      omega
    obtain ⟨z0, h0⟩ := get (v := [a]) (by simpa [Try.cellsN3] using hf 0 _ rfl) (hx 0 (by omega))
    obtain ⟨z1, h1⟩ := get (v := [b]) (by simpa [Try.cellsN3, Try.cellsNU] using hf 1 _ rfl) (hx 1 (by omega))
    obtain ⟨z2, h2⟩ := get (v := [c]) (by simpa [Try.cellsN3, Try.cellsNU] using hf 2 _ rfl) (hx 2 (by omega))
    obtain ⟨z3, h3⟩ := get (v := [d0, d1, d2, d3, d4, d5, d6, d7]) (by simpa [Try.cellsN3, Try.cellsNU, Try.cellsNode] using hf 3 _ rfl) (hx 3 (by omega))
    obtain ⟨n0, e0, _, w0⟩ := DataW.trod_int Try.underlying3 h0
    obtain ⟨n1, e1, _, w1⟩ := DataW.trod_int Try.underlying30 h1
    obtain ⟨n2, e2, _, w2⟩ := DataW.trod_int Try.underlying30 h2
    obtain ⟨lv, nx, lo, hi, la, ak, av, ac, nk, ck, nv, cv, nc, cc, ks, vs, cs, hcs, hN, hw1, hw2⟩ := node_readw h3
    simp at e0 e1 e2 hcs
    obtain ⟨rfl, rfl, rfl, rfl, rfl, rfl, rfl, rfl⟩ := hcs
    subst e0 e1 e2
    exact ⟨_, _, _, _, _, _, _, _, _, _, _, _, _, _, _, _, _, ks, vs, cs, rfl, hN, w0, hw1, hw2⟩

/-- A known, told of its cells. -/
theorem kn_read {fuel : Nat} {l : List Value} {x : DataW H × List MemPlace} (h : DataW.trod enc Try.prog w 0 (fun _ => true) true fuel 40 l = some x) :
    ∃ kn : Kn, KL (PV w) l kn ∧ WfK kn := by
  obtain ⟨kc, kw, kv, lv, nx, lo, hi, la, ak, av, ac, nk, ck, nv, cv, nc, cc, ks, vs, cs, rfl, hN, hw0, hw1, hw2⟩ := known_readw h
  obtain rfl : ks.length = nk := (rd_len hN.k).1
  obtain rfl : vs.length = nv := (rd_len hN.v).1
  obtain rfl : cs.length = nc := (rd_len hN.c).1
  refine ⟨⟨kc, kw, kv, ⟨lv, nx, lo, hi, la, ks, vs, cs⟩⟩, ⟨ak, _, ck, av, _, cv, ac, _, cc, rfl, ⟨ak, av, ac, ck, cv, cc, rfl, hN⟩⟩, ⟨hw0, hw1, hw2⟩⟩
instance : Inhabited Kn := ⟨Kn.zero⟩
/-- A row of knowns that came in. -/
theorem kns_read {fuel : Nat} {ao : Option Addr} {len cap : Nat} {x : DataW H × List MemPlace} (h : DataW.trod enc Try.prog w 0 (fun _ => true) true fuel 22 [.slice ao len cap] = some x) :
    ∃ ks : List Kn, KsAt (PV w) w (.slice ao len cap) ks ∧ ∀ kn ∈ ks, WfK kn := by
  rcases open_slice Try.underlying22 h with ⟨hcs, _⟩ | ⟨a, len', cap', m, n, D, Pl, hcs, _, hl, hm, hmm, _, hx⟩
  · simp at hcs
    obtain ⟨rfl, rfl, rfl⟩ := hcs
    exact ⟨[], KsAt.nil _ _, fun kn h => by cases h⟩
  · simp at hcs
    obtain ⟨rfl, rfl, rfl⟩ := hcs
    simp only [if_true] at hmm
    rw [Try.cellsKnown] at hx
    obtain ⟨X, hX⟩ := choose_lt (α := Kn) (n := len) (p := fun i kn => (∃ l, KL (PV w) l kn ∧ ∀ j v, l[j]? = some v → w.cell? (a.add (i * 11 + j)) = some v) ∧ WfK kn) (fun i hi => by
      obtain ⟨cs', h1, h2⟩ := hx i (by omega)
      obtain ⟨kn, hkl, hw1⟩ := kn_read h2
      obtain ⟨_, hlen, hc⟩ := World.cells?_some h1
      refine ⟨kn, ⟨_, hkl, fun j v hv => ?_⟩, hw1⟩
      have hj : j < 11 := by have := (List.getElem?_eq_some_iff.1 hv).1; rw [hkl.len] at this; exact this
      have := hc j (by omega)
      rw [add_add] at this
      rw [this]
      exact hv)
    have hbl : ((List.range len).map X).length = len := by simp
    have hat : ∀ i, i < len → kAt ((List.range len).map X) i = X i := fun i hi => by
      rw [kAt_eq (by rw [hbl]; exact hi)]
      simp
    refine ⟨(List.range len).map X, ⟨some a, cap, by rw [hbl], by rw [hbl]; omega, by unfold maxLen at hm; omega, fun hne => ?_⟩, fun kn hm => ?_⟩
    · rw [hbl] at hne
      obtain ⟨b, off, spot⟩ := a
      obtain ⟨l0, hl0, hc0⟩ := (hX 0 hne).1
      obtain ⟨v0, hv0⟩ : ∃ v, l0[0]? = some v := ⟨_, List.getElem?_eq_getElem (by rw [hl0.len]; omega)⟩
      have hz := hc0 0 v0 hv0
      have hspot : spot = none := by simpa [Addr.add] using World.cell?_spot hz
      subst hspot
      refine ⟨b, off, rfl, fun j hj => ?_⟩
      rw [hbl] at hj
      rw [hat j hj]
      obtain ⟨l, hl, hc⟩ := (hX j hj).1
      refine ⟨l, hl, fun i hi => ?_⟩
      obtain ⟨v, hv⟩ : ∃ v, l[i]? = some v := ⟨_, List.getElem?_eq_getElem (by rw [hl.len]; exact hi)⟩
      have := hc i v hv
      rw [add_place, ← Nat.add_assoc] at this
      rw [this, hv]
    · obtain ⟨i, hi, rfl⟩ := List.mem_map.1 hm
      exact (hX i (List.mem_range.1 hi)).2
end
end Go.Proofs.Ytgaacoeggikbpaa
