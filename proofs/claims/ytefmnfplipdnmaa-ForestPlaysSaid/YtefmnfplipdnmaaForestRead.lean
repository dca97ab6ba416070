/- How an argument of type Known is read. No condition. -/
import Derived.Test.YtefmnfplipdnmaaNodeRead
namespace Go.Proofs.Ytefmnfplipdnmaa
open Go.ChangeShapes Go.WideShapes Go.ChangeAt Go.RowKit Go.Deep Go.ChangeMaps

theorem Try.cellsKnown : Try.prog.cellsOf 39 = 11 := by kernel_rfl

section
variable {H : Type} {enc : TypeId × Value → H} {w : World}
set_option maxRecDepth 100000 in
set_option maxHeartbeats 1000000 in
theorem known_read {fuel : Nat} {l : List Value} {x : DataW H × List MemPlace} (h : DataW.trod enc Try.prog w 0 (fun _ => true) true fuel 39 l = some x) :
    ∃ (kc kw kv lv nx : Int) (lo hi : ByteArray) (la : Bool) (ak av ac : Option Addr) (nk ck nv cv nc cc : Nat) (ks : List ByteArray) (vs : List Nat) (cs : List Int), l = [.int .i64 kc, .int .u64 kw, .int .u64 kv, .int .i64 lv, .string lo, .string hi, .bool la, .int .i64 nx, .slice ak nk ck, .slice av nv cv, .slice ac nc cc] ∧ NdAt w ak av ac nk ck nv cv nc cc ks vs cs := by
  obtain ⟨xs, n, _, _, hlen, _, hf⟩ := DataW.trod_struct Try.underlying39 h
  rw [Try.cellsKnown] at hlen
  match l, hlen with
  | [a, b, c, d0, d1, d2, d3, d4, d5, d6, d7], _ =>
    have get : ∀ {y : Option (DataW H × List MemPlace)} {t : TypeId} {v : List Value}, DataW.trod enc Try.prog w 0 (fun _ => true) true n t v = y → (y = none → False) → ∃ z, DataW.trod enc Try.prog w 0 (fun _ => true) true n t v = some z := by
      intro y t v hy hn
      cases hy' : DataW.trod enc Try.prog w 0 (fun _ => true) true n t v with
      | none => exact (hn (hy.symm.trans hy')).elim
      | some z => exact ⟨z, rfl⟩
    have hxl : xs.length = 4 := by assumption
    have hx : ∀ i, i < 4 → xs[i]? = none → False := fun i hi e => by
      have := List.getElem?_eq_none_iff.1 e
      omega
    obtain ⟨z0, h0⟩ := get (v := [a]) (by simpa [Try.cellsN3] using hf 0 _ rfl) (hx 0 (by omega))
    obtain ⟨z1, h1⟩ := get (v := [b]) (by simpa [Try.cellsN3, Try.cellsNU] using hf 1 _ rfl) (hx 1 (by omega))
    obtain ⟨z2, h2⟩ := get (v := [c]) (by simpa [Try.cellsN3, Try.cellsNU] using hf 2 _ rfl) (hx 2 (by omega))
    obtain ⟨z3, h3⟩ := get (v := [d0, d1, d2, d3, d4, d5, d6, d7]) (by simpa [Try.cellsN3, Try.cellsNU, Try.cellsNode] using hf 3 _ rfl) (hx 3 (by omega))
    obtain ⟨n0, e0, _, w0⟩ := DataW.trod_int Try.underlying3 h0
    obtain ⟨n1, e1, _, w1⟩ := DataW.trod_int Try.underlying32 h1
    obtain ⟨n2, e2, _, w2⟩ := DataW.trod_int Try.underlying32 h2
    obtain ⟨lv, nx, lo, hi, la, ak, av, ac, nk, ck, nv, cv, nc, cc, ks, vs, cs, hcs, hN⟩ := node_read h3
    simp at e0 e1 e2 hcs
    obtain ⟨rfl, rfl, rfl, rfl, rfl, rfl, rfl, rfl⟩ := hcs
    subst e0 e1 e2
    exact ⟨_, _, _, _, _, _, _, _, _, _, _, _, _, _, _, _, _, ks, vs, cs, rfl, hN⟩
end
end Go.Proofs.Ytefmnfplipdnmaa
