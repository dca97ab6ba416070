/- How a block, an operation, and an access that came in are read: their cells. No condition. -/
import Derived.Test.YtkdjcikilabehaaMemVal
import Derived.Test.YtkdjcikilabehaaNodeRead
namespace Go.Proofs.Ytkdjcikilabehaa
open Go.ChangeShapes Go.WideShapes Go.ChangeAt Go.RowKit Go.Deep Go.ChangeMaps

theorem Try.c26Pairs : Try.prog.cellsOf 34 = 1 := by kernel_rfl
theorem Try.c26Steps : Try.prog.cellsOf 37 = 1 := by kernel_rfl
theorem Try.c26Ans : Try.prog.cellsOf 36 = 4 := by kernel_rfl
theorem Try.c26Plan : Try.prog.cellsOf 39 = 7 := by kernel_rfl
theorem Try.c26Block : Try.prog.cellsOf 41 = 17 := by kernel_rfl
theorem Try.c26Op : Try.prog.cellsOf 43 = 5 := by kernel_rfl
theorem Try.c26Acc : Try.prog.cellsOf 48 = 26 := by kernel_rfl
section
variable {H : Type} {enc : TypeId × Value → H} {w : World}
theorem slice_bd {fuel : Nat} {t e : TypeId} {v : Value} {x : DataW H × List MemPlace} (ht : Try.prog.underlying t = some (.slice e)) (h : DataW.trod enc Try.prog w 0 (fun _ => true) true fuel t [v] = some x) : ∃ ao n c, v = .slice ao n c ∧ n ≤ 9223372036854775807 := by
  rcases open_slice ht h with ⟨hcs, _⟩ | ⟨a, len', cap', m, n, D, Pl, hcs, _, hl, hm, hmm, _, hx⟩
  · simp at hcs
    subst hcs
    exact ⟨_, _, _, rfl, by omega⟩
  · simp at hcs
    subst hcs
    exact ⟨_, _, _, rfl, by unfold maxLen at hm; omega⟩
set_option maxRecDepth 100000 in
set_option maxHeartbeats 1000000 in
theorem ans26 {fuel : Nat} {l : List Value} {x : DataW H × List MemPlace} (h : DataW.trod enc Try.prog w 0 (fun _ => true) true fuel 36 l = some x) :
    ∃ (k : Int) (key : ByteArray) (v : Nat) (ao : Option Addr) (n c : Nat), l = [.int .i64 k, .string key, .int .u64 (v : Nat), .slice ao n c] ∧ v < 18446744073709551616 ∧ n ≤ 9223372036854775807 ∧ ∃ fuel x, DataW.trod enc Try.prog w 0 (fun _ => true) true fuel 34 [.slice ao n c] = some x := by
  obtain ⟨xs, n, _, _, hlen, _, hf⟩ := DataW.trod_struct Try.underlying36 h
  rw [Try.c26Ans] at hlen
  match l, hlen with
  | [a0, a1, a2, a3], _ =>
    have get : ∀ {y : Option (DataW H × List MemPlace)} {t : TypeId} {v : List Value}, DataW.trod enc Try.prog w 0 (fun _ => true) true n t v = y → (y = none → False) → ∃ z, DataW.trod enc Try.prog w 0 (fun _ => true) true n t v = some z := by
      intro y t v hy hn
      cases hy' : DataW.trod enc Try.prog w 0 (fun _ => true) true n t v with
      | none => exact (hn (hy.symm.trans hy')).elim
      | some z => exact ⟨z, rfl⟩
    have hxl : xs.length = 4 := by assumption
    have hx : ∀ i, i < 4 → xs[i]? = none → False := fun i hi e => by
      have := List.getElem?_eq_none_iff.1 e
      omega
    obtain ⟨z0, h0⟩ := get (v := [a0]) (by simpa [Try.c26Acc, Try.c26Ans, Try.c26Block, Try.c26Op, Try.c26Pairs, Try.c26Plan, Try.c26Steps, Try.cellsN3, Try.cellsN4, Try.cellsN9, Try.cellsNU, Try.cellsNi, Try.cellsNode, Try.cellsNs, Try.cellsNu] using hf 0 _ rfl) (hx 0 (by omega))
    obtain ⟨z1, h1⟩ := get (v := [a1]) (by simpa [Try.c26Acc, Try.c26Ans, Try.c26Block, Try.c26Op, Try.c26Pairs, Try.c26Plan, Try.c26Steps, Try.cellsN3, Try.cellsN4, Try.cellsN9, Try.cellsNU, Try.cellsNi, Try.cellsNode, Try.cellsNs, Try.cellsNu] using hf 1 _ rfl) (hx 1 (by omega))
    obtain ⟨z2, h2⟩ := get (v := [a2]) (by simpa [Try.c26Acc, Try.c26Ans, Try.c26Block, Try.c26Op, Try.c26Pairs, Try.c26Plan, Try.c26Steps, Try.cellsN3, Try.cellsN4, Try.cellsN9, Try.cellsNU, Try.cellsNi, Try.cellsNode, Try.cellsNs, Try.cellsNu] using hf 2 _ rfl) (hx 2 (by omega))
    obtain ⟨z3, h3⟩ := get (v := [a3]) (by simpa [Try.c26Acc, Try.c26Ans, Try.c26Block, Try.c26Op, Try.c26Pairs, Try.c26Plan, Try.c26Steps, Try.cellsN3, Try.cellsN4, Try.cellsN9, Try.cellsNU, Try.cellsNi, Try.cellsNode, Try.cellsNs, Try.cellsNu] using hf 3 _ rfl) (hx 3 (by omega))
    obtain ⟨n0, e0, _, w0⟩ := DataW.trod_int Try.underlying3 h0
    simp at e0
    subst e0
    obtain ⟨n1, e1, _, w1⟩ := DataW.trod_string Try.underlying9 h1
    simp at e1
    subst e1
    obtain ⟨m2, e2, _, w2⟩ := DataW.trod_int Try.underlying22 h2
    obtain ⟨n2, rfl, u2⟩ := u64_form w2
    simp at e2
    subst e2
    obtain ⟨p3, q3, r3, rfl, w3⟩ := slice_bd Try.underlying34 h3
    exact ⟨_, _, _, _, _, _, rfl, u2, w3, _, _, h3⟩
set_option maxRecDepth 100000 in
set_option maxHeartbeats 1000000 in
theorem plan26 {fuel : Nat} {l : List Value} {x : DataW H × List MemPlace} (h : DataW.trod enc Try.prog w 0 (fun _ => true) true fuel 39 l = some x) :
    ∃ (th k : Int) (key : ByteArray) (v : Nat) (p4 : Option Addr) (n4 c4 : Nat) (p5 : Option Addr) (n5 c5 : Nat) (p6 : Option Addr) (n6 c6 : Nat), l = [.int .i64 th, .int .i64 k, .string key, .int .u64 (v : Nat), .slice p4 n4 c4, .slice p5 n5 c5, .slice p6 n6 c6] ∧ v < 18446744073709551616 ∧ (n4 ≤ 9223372036854775807 ∧ (∃ fuel x, DataW.trod enc Try.prog w 0 (fun _ => true) true fuel 34 [.slice p4 n4 c4] = some x)) ∧ (n5 ≤ 9223372036854775807 ∧ (∃ fuel x, DataW.trod enc Try.prog w 0 (fun _ => true) true fuel 37 [.slice p5 n5 c5] = some x)) ∧ n6 ≤ 9223372036854775807 ∧ (∃ fuel x, DataW.trod enc Try.prog w 0 (fun _ => true) true fuel 30 [.slice p6 n6 c6] = some x) := by
  obtain ⟨xs, n, _, _, hlen, _, hf⟩ := DataW.trod_struct Try.underlying39 h
  rw [Try.c26Plan] at hlen
  match l, hlen with
  | [a0, a1, a2, a3, a4, a5, a6], _ =>
    have get : ∀ {y : Option (DataW H × List MemPlace)} {t : TypeId} {v : List Value}, DataW.trod enc Try.prog w 0 (fun _ => true) true n t v = y → (y = none → False) → ∃ z, DataW.trod enc Try.prog w 0 (fun _ => true) true n t v = some z := by
      intro y t v hy hn
      cases hy' : DataW.trod enc Try.prog w 0 (fun _ => true) true n t v with
      | none => exact (hn (hy.symm.trans hy')).elim
      | some z => exact ⟨z, rfl⟩
    have hxl : xs.length = 4 := by assumption
    have hx : ∀ i, i < 4 → xs[i]? = none → False := fun i hi e => by
      have := List.getElem?_eq_none_iff.1 e
      omega
    obtain ⟨z0, h0⟩ := get (v := [a0]) (by simpa [Try.c26Acc, Try.c26Ans, Try.c26Block, Try.c26Op, Try.c26Pairs, Try.c26Plan, Try.c26Steps, Try.cellsN3, Try.cellsN4, Try.cellsN9, Try.cellsNU, Try.cellsNi, Try.cellsNode, Try.cellsNs, Try.cellsNu] using hf 0 _ rfl) (hx 0 (by omega))
    obtain ⟨z1, h1⟩ := get (v := [a1, a2, a3, a4]) (by simpa [Try.c26Acc, Try.c26Ans, Try.c26Block, Try.c26Op, Try.c26Pairs, Try.c26Plan, Try.c26Steps, Try.cellsN3, Try.cellsN4, Try.cellsN9, Try.cellsNU, Try.cellsNi, Try.cellsNode, Try.cellsNs, Try.cellsNu] using hf 1 _ rfl) (hx 1 (by omega))
    obtain ⟨z2, h2⟩ := get (v := [a5]) (by simpa [Try.c26Acc, Try.c26Ans, Try.c26Block, Try.c26Op, Try.c26Pairs, Try.c26Plan, Try.c26Steps, Try.cellsN3, Try.cellsN4, Try.cellsN9, Try.cellsNU, Try.cellsNi, Try.cellsNode, Try.cellsNs, Try.cellsNu] using hf 2 _ rfl) (hx 2 (by omega))
    obtain ⟨z3, h3⟩ := get (v := [a6]) (by simpa [Try.c26Acc, Try.c26Ans, Try.c26Block, Try.c26Op, Try.c26Pairs, Try.c26Plan, Try.c26Steps, Try.cellsN3, Try.cellsN4, Try.cellsN9, Try.cellsNU, Try.cellsNi, Try.cellsNode, Try.cellsNs, Try.cellsNu] using hf 3 _ rfl) (hx 3 (by omega))
    obtain ⟨n0, e0, _, w0⟩ := DataW.trod_int Try.underlying3 h0
    simp at e0
    subst e0
    obtain ⟨k1, key1, v1, p1, q1, r1, e1, w1, b1, t1⟩ := ans26 h1
    obtain ⟨p2, q2, r2, rfl, w2⟩ := slice_bd Try.underlying37 h2
    obtain ⟨p3, q3, r3, rfl, w3⟩ := slice_bd Try.underlying30 h3
    injection e1 with e10 e1
    injection e1 with e11 e1
    injection e1 with e12 e1
    injection e1 with e13 e1
    subst e10 e11 e12 e13
    exact ⟨_, _, _, _, _, _, _, _, _, _, _, _, _, rfl, w1, ⟨b1, t1⟩, ⟨w2, _, _, h2⟩, ⟨w3, _, _, h3⟩⟩
/-- A block that came in. -/
structure Bl26 {H : Type} (enc : TypeId × Value → H) (w : World) (b : Bl) : Prop where
  nd : ∃ ks vs cs, NdAt w b.p1 b.p2 b.p3 b.n1 b.c1 b.n2 b.c2 b.n3 b.c3 ks vs cs
  b4 : b.n4 ≤ 9223372036854775807 ∧ ∃ fuel x, DataW.trod enc Try.prog w 0 (fun _ => true) true fuel 34 [.slice b.p4 b.n4 b.c4] = some x
  b5 : b.n5 ≤ 9223372036854775807 ∧ ∃ fuel x, DataW.trod enc Try.prog w 0 (fun _ => true) true fuel 37 [.slice b.p5 b.n5 b.c5] = some x
  b6 : b.n6 ≤ 9223372036854775807 ∧ ∃ fuel x, DataW.trod enc Try.prog w 0 (fun _ => true) true fuel 30 [.slice b.p6 b.n6 b.c6] = some x
  b7 : b.n7 ≤ 9223372036854775807 ∧ ∃ fuel x, DataW.trod enc Try.prog w 0 (fun _ => true) true fuel 34 [.slice b.p7 b.n7 b.c7] = some x
  av : b.av < 18446744073709551616
set_option maxRecDepth 100000 in
set_option maxHeartbeats 1000000 in
theorem block26 {fuel : Nat} {l : List Value} {x : DataW H × List MemPlace} (h : DataW.trod enc Try.prog w 0 (fun _ => true) true fuel 41 l = some x) :
    ∃ b : Bl, l = b.cells ∧ Bl26 enc w b := by
  obtain ⟨xs, n, _, _, hlen, _, hf⟩ := DataW.trod_struct Try.underlying41 h
  rw [Try.c26Block] at hlen
  match l, hlen with
  | [a0, a1, a2, a3, a4, a5, a6, a7, a8, a9, a10, a11, a12, a13, a14, a15, a16], _ =>
    have get : ∀ {y : Option (DataW H × List MemPlace)} {t : TypeId} {v : List Value}, DataW.trod enc Try.prog w 0 (fun _ => true) true n t v = y → (y = none → False) → ∃ z, DataW.trod enc Try.prog w 0 (fun _ => true) true n t v = some z := by
      intro y t v hy hn
      cases hy' : DataW.trod enc Try.prog w 0 (fun _ => true) true n t v with
      | none => exact (hn (hy.symm.trans hy')).elim
      | some z => exact ⟨z, rfl⟩
    have hxl : xs.length = 4 := by assumption
    have hx : ∀ i, i < 4 → xs[i]? = none → False := fun i hi e => by
      have := List.getElem?_eq_none_iff.1 e
      omega
    obtain ⟨z0, h0⟩ := get (v := [a0]) (by simpa [Try.c26Acc, Try.c26Ans, Try.c26Block, Try.c26Op, Try.c26Pairs, Try.c26Plan, Try.c26Steps, Try.cellsN3, Try.cellsN4, Try.cellsN9, Try.cellsNU, Try.cellsNi, Try.cellsNode, Try.cellsNs, Try.cellsNu] using hf 0 _ rfl) (hx 0 (by omega))
    obtain ⟨z1, h1⟩ := get (v := [a1, a2, a3, a4, a5, a6, a7, a8]) (by simpa [Try.c26Acc, Try.c26Ans, Try.c26Block, Try.c26Op, Try.c26Pairs, Try.c26Plan, Try.c26Steps, Try.cellsN3, Try.cellsN4, Try.cellsN9, Try.cellsNU, Try.cellsNi, Try.cellsNode, Try.cellsNs, Try.cellsNu] using hf 1 _ rfl) (hx 1 (by omega))
    obtain ⟨z2, h2⟩ := get (v := [a9, a10, a11, a12, a13, a14, a15]) (by simpa [Try.c26Acc, Try.c26Ans, Try.c26Block, Try.c26Op, Try.c26Pairs, Try.c26Plan, Try.c26Steps, Try.cellsN3, Try.cellsN4, Try.cellsN9, Try.cellsNU, Try.cellsNi, Try.cellsNode, Try.cellsNs, Try.cellsNu] using hf 2 _ rfl) (hx 2 (by omega))
    obtain ⟨z3, h3⟩ := get (v := [a16]) (by simpa [Try.c26Acc, Try.c26Ans, Try.c26Block, Try.c26Op, Try.c26Pairs, Try.c26Plan, Try.c26Steps, Try.cellsN3, Try.cellsN4, Try.cellsN9, Try.cellsNU, Try.cellsNi, Try.cellsNode, Try.cellsNs, Try.cellsNu] using hf 3 _ rfl) (hx 3 (by omega))
    obtain ⟨n0, e0, _, w0⟩ := DataW.trod_int Try.underlying3 h0
    simp at e0
    subst e0
    obtain ⟨lv, nx, lo, hi, la, ak, av, ac, nk, ck, nv, cv, nc, cc, ks, vs, cs, e1, hN⟩ := node_read h1
    obtain ⟨th, k, key, v, p4, q4, c4, p5, q5, c5, p6, q6, c6, e2, w2, w4, w5, w6⟩ := plan26 h2
    obtain ⟨p3, q3, r3, rfl, w3⟩ := slice_bd Try.underlying34 h3
    simp only [List.cons.injEq, and_true] at e1 e2
    obtain ⟨rfl, rfl, rfl, rfl, rfl, rfl, rfl, rfl⟩ := e1
    obtain ⟨rfl, rfl, rfl, rfl, rfl, rfl, rfl⟩ := e2
    exact ⟨⟨_, _, _, _, _, _, _, _, _, _, _, _, _, _, _, _, _, _, _, _, _, _, _, _, _, _, _, _, _, _, _⟩, rfl, ⟨⟨ks, vs, cs, hN⟩, w4, w5, w6, ⟨w3, _, _, h3⟩, w2⟩⟩
set_option maxRecDepth 100000 in
set_option maxHeartbeats 1000000 in
theorem op26 {fuel : Nat} {l : List Value} {x : DataW H × List MemPlace} (h : DataW.trod enc Try.prog w 0 (fun _ => true) true fuel 43 l = some x) :
    ∃ o : OpV, l = o.cells ∧ o.v < 18446744073709551616 := by
  obtain ⟨xs, n, _, _, hlen, _, hf⟩ := DataW.trod_struct Try.underlying43 h
  rw [Try.c26Op] at hlen
  match l, hlen with
  | [a0, a1, a2, a3, a4], _ =>
    have get : ∀ {y : Option (DataW H × List MemPlace)} {t : TypeId} {v : List Value}, DataW.trod enc Try.prog w 0 (fun _ => true) true n t v = y → (y = none → False) → ∃ z, DataW.trod enc Try.prog w 0 (fun _ => true) true n t v = some z := by
      intro y t v hy hn
      cases hy' : DataW.trod enc Try.prog w 0 (fun _ => true) true n t v with
      | none => exact (hn (hy.symm.trans hy')).elim
      | some z => exact ⟨z, rfl⟩
    have hxl : xs.length = 5 := by assumption
    have hx : ∀ i, i < 5 → xs[i]? = none → False := fun i hi e => by
      have := List.getElem?_eq_none_iff.1 e
      omega
    obtain ⟨z0, h0⟩ := get (v := [a0]) (by simpa [Try.c26Acc, Try.c26Ans, Try.c26Block, Try.c26Op, Try.c26Pairs, Try.c26Plan, Try.c26Steps, Try.cellsN3, Try.cellsN4, Try.cellsN9, Try.cellsNU, Try.cellsNi, Try.cellsNode, Try.cellsNs, Try.cellsNu] using hf 0 _ rfl) (hx 0 (by omega))
    obtain ⟨z1, h1⟩ := get (v := [a1]) (by simpa [Try.c26Acc, Try.c26Ans, Try.c26Block, Try.c26Op, Try.c26Pairs, Try.c26Plan, Try.c26Steps, Try.cellsN3, Try.cellsN4, Try.cellsN9, Try.cellsNU, Try.cellsNi, Try.cellsNode, Try.cellsNs, Try.cellsNu] using hf 1 _ rfl) (hx 1 (by omega))
    obtain ⟨z2, h2⟩ := get (v := [a2]) (by simpa [Try.c26Acc, Try.c26Ans, Try.c26Block, Try.c26Op, Try.c26Pairs, Try.c26Plan, Try.c26Steps, Try.cellsN3, Try.cellsN4, Try.cellsN9, Try.cellsNU, Try.cellsNi, Try.cellsNode, Try.cellsNs, Try.cellsNu] using hf 2 _ rfl) (hx 2 (by omega))
    obtain ⟨z3, h3⟩ := get (v := [a3]) (by simpa [Try.c26Acc, Try.c26Ans, Try.c26Block, Try.c26Op, Try.c26Pairs, Try.c26Plan, Try.c26Steps, Try.cellsN3, Try.cellsN4, Try.cellsN9, Try.cellsNU, Try.cellsNi, Try.cellsNode, Try.cellsNs, Try.cellsNu] using hf 3 _ rfl) (hx 3 (by omega))
    obtain ⟨z4, h4⟩ := get (v := [a4]) (by simpa [Try.c26Acc, Try.c26Ans, Try.c26Block, Try.c26Op, Try.c26Pairs, Try.c26Plan, Try.c26Steps, Try.cellsN3, Try.cellsN4, Try.cellsN9, Try.cellsNU, Try.cellsNi, Try.cellsNode, Try.cellsNs, Try.cellsNu] using hf 4 _ rfl) (hx 4 (by omega))
    obtain ⟨n0, e0, _, w0⟩ := DataW.trod_int Try.underlying3 h0
    simp at e0
    subst e0
    obtain ⟨n1, e1, _, w1⟩ := DataW.trod_string Try.underlying9 h1
    simp at e1
    subst e1
    obtain ⟨n2, e2, _, w2⟩ := DataW.trod_string Try.underlying9 h2
    simp at e2
    subst e2
    obtain ⟨m3, e3, _, w3⟩ := DataW.trod_int Try.underlying22 h3
    obtain ⟨n3, rfl, u3⟩ := u64_form w3
    simp at e3
    subst e3
    obtain ⟨n4, e4, _, w4⟩ := DataW.trod_int Try.underlying3 h4
    simp at e4
    subst e4
    exact ⟨⟨_, _, _, _, _⟩, rfl, u3⟩
set_option maxRecDepth 100000 in
set_option maxHeartbeats 1000000 in
theorem acc26 {fuel : Nat} {l : List Value} {x : DataW H × List MemPlace} (h : DataW.trod enc Try.prog w 0 (fun _ => true) true fuel 48 l = some x) :
    ∃ a : AcV, l = a.cells ∧ a.ver < 18446744073709551616 ∧ a.word < 18446744073709551616 ∧ Bl26 enc w a.b ∧ a.o.v < 18446744073709551616 := by
  obtain ⟨xs, n, _, _, hlen, _, hf⟩ := DataW.trod_struct Try.underlying48 h
  rw [Try.c26Acc] at hlen
  match l, hlen with
  | [a0, a1, a2, a3, a4, a5, a6, a7, a8, a9, a10, a11, a12, a13, a14, a15, a16, a17, a18, a19, a20, a21, a22, a23, a24, a25], _ =>
    have get : ∀ {y : Option (DataW H × List MemPlace)} {t : TypeId} {v : List Value}, DataW.trod enc Try.prog w 0 (fun _ => true) true n t v = y → (y = none → False) → ∃ z, DataW.trod enc Try.prog w 0 (fun _ => true) true n t v = some z := by
      intro y t v hy hn
      cases hy' : DataW.trod enc Try.prog w 0 (fun _ => true) true n t v with
      | none => exact (hn (hy.symm.trans hy')).elim
      | some z => exact ⟨z, rfl⟩
    have hxl : xs.length = 6 := by assumption
    have hx : ∀ i, i < 6 → xs[i]? = none → False := fun i hi e => by
      have := List.getElem?_eq_none_iff.1 e
      omega
    obtain ⟨z0, h0⟩ := get (v := [a0]) (by simpa [Try.c26Acc, Try.c26Ans, Try.c26Block, Try.c26Op, Try.c26Pairs, Try.c26Plan, Try.c26Steps, Try.cellsN3, Try.cellsN4, Try.cellsN9, Try.cellsNU, Try.cellsNi, Try.cellsNode, Try.cellsNs, Try.cellsNu] using hf 0 _ rfl) (hx 0 (by omega))
    obtain ⟨z1, h1⟩ := get (v := [a1]) (by simpa [Try.c26Acc, Try.c26Ans, Try.c26Block, Try.c26Op, Try.c26Pairs, Try.c26Plan, Try.c26Steps, Try.cellsN3, Try.cellsN4, Try.cellsN9, Try.cellsNU, Try.cellsNi, Try.cellsNode, Try.cellsNs, Try.cellsNu] using hf 1 _ rfl) (hx 1 (by omega))
    obtain ⟨z2, h2⟩ := get (v := [a2]) (by simpa [Try.c26Acc, Try.c26Ans, Try.c26Block, Try.c26Op, Try.c26Pairs, Try.c26Plan, Try.c26Steps, Try.cellsN3, Try.cellsN4, Try.cellsN9, Try.cellsNU, Try.cellsNi, Try.cellsNode, Try.cellsNs, Try.cellsNu] using hf 2 _ rfl) (hx 2 (by omega))
    obtain ⟨z3, h3⟩ := get (v := [a3]) (by simpa [Try.c26Acc, Try.c26Ans, Try.c26Block, Try.c26Op, Try.c26Pairs, Try.c26Plan, Try.c26Steps, Try.cellsN3, Try.cellsN4, Try.cellsN9, Try.cellsNU, Try.cellsNi, Try.cellsNode, Try.cellsNs, Try.cellsNu] using hf 3 _ rfl) (hx 3 (by omega))
    obtain ⟨z4, h4⟩ := get (v := [a4, a5, a6, a7, a8, a9, a10, a11, a12, a13, a14, a15, a16, a17, a18, a19, a20]) (by simpa [Try.c26Acc, Try.c26Ans, Try.c26Block, Try.c26Op, Try.c26Pairs, Try.c26Plan, Try.c26Steps, Try.cellsN3, Try.cellsN4, Try.cellsN9, Try.cellsNU, Try.cellsNi, Try.cellsNode, Try.cellsNs, Try.cellsNu] using hf 4 _ rfl) (hx 4 (by omega))
    obtain ⟨z5, h5⟩ := get (v := [a21, a22, a23, a24, a25]) (by simpa [Try.c26Acc, Try.c26Ans, Try.c26Block, Try.c26Op, Try.c26Pairs, Try.c26Plan, Try.c26Steps, Try.cellsN3, Try.cellsN4, Try.cellsN9, Try.cellsNU, Try.cellsNi, Try.cellsNode, Try.cellsNs, Try.cellsNu] using hf 5 _ rfl) (hx 5 (by omega))
    obtain ⟨n0, e0, _, w0⟩ := DataW.trod_int Try.underlying3 h0
    simp at e0
    subst e0
    obtain ⟨n1, e1, _, w1⟩ := DataW.trod_int Try.underlying3 h1
    simp at e1
    subst e1
    obtain ⟨m2, e2, _, w2⟩ := DataW.trod_int Try.underlying22 h2
    obtain ⟨n2, rfl, u2⟩ := u64_form w2
    simp at e2
    subst e2
    obtain ⟨m3, e3, _, w3⟩ := DataW.trod_int Try.underlying22 h3
    obtain ⟨n3, rfl, u3⟩ := u64_form w3
    simp at e3
    subst e3
    obtain ⟨b, e4, w4⟩ := block26 h4
    obtain ⟨o, e5, w5⟩ := op26 h5
    simp only [Bl.cells, OpV.cells, List.cons.injEq, and_true] at e4 e5
    obtain ⟨rfl, rfl, rfl, rfl, rfl, rfl, rfl, rfl, rfl, rfl, rfl, rfl, rfl, rfl, rfl, rfl, rfl⟩ := e4
    obtain ⟨rfl, rfl, rfl, rfl, rfl⟩ := e5
    exact ⟨⟨_, _, _, _, b, o⟩, rfl, u2, u3, w4, w5⟩
end
end Go.Proofs.Ytkdjcikilabehaa
