/- The law FindWays: the way for any text, below it, or at the end, in any view of sound nodes, and what the view lacks for want of it, are the document's; in others nothing panics: it returns true for all arguments, and they read behind the call as they read before. No condition. (How an argument that is a row of Knowns is read stands ahead of it.) -/
import Derived.Test.YtefmnfplipdnmaaFindWaysW
import Derived.Test.YtefmnfplipdnmaaForestRead
namespace Go.Proofs.Ytefmnfplipdnmaa
open Go.ChangeShapes Go.WideShapes Go.ChangeAt Go.RowKit Go.Deep Go.ChangeMaps

section
variable {H : Type} {enc : TypeId × Value → H} {w : World}
set_option maxRecDepth 100000 in
set_option maxHeartbeats 1000000 in
theorem node_readw {fuel : Nat} {l : List Value} {x : DataW H × List MemPlace} (h : DataW.trod enc Try.prog w 0 (fun _ => true) true fuel 37 l = some x) :
    ∃ (lv nx : Int) (lo hi : ByteArray) (la : Bool) (ak av ac : Option Addr) (nk ck nv cv nc cc : Nat) (ks : List ByteArray) (vs : List Nat) (cs : List Int), l = [.int .i64 lv, .string lo, .string hi, .bool la, .int .i64 nx, .slice ak nk ck, .slice av nv cv, .slice ac nc cc] ∧ NdAt w ak av ac nk ck nv cv nc cc ks vs cs ∧ (Lit.int .i64 nx).wf = true ∧ ∀ z ∈ cs, (Lit.int .i64 z).wf = true := by
  obtain ⟨xs, n, _, _, hlen, _, hf⟩ := DataW.trod_struct Try.underlying37 h
  rw [Try.cellsNode] at hlen
  match l, hlen with
  | [a, b, c, d, f, g, p, q], _ =>
    have get : ∀ {y : Option (DataW H × List MemPlace)} {t : TypeId} {v : Value}, DataW.trod enc Try.prog w 0 (fun _ => true) true n t [v] = y → (y = none → False) → ∃ z, DataW.trod enc Try.prog w 0 (fun _ => true) true n t [v] = some z := by
      intro y t v hy hn
      cases hy' : DataW.trod enc Try.prog w 0 (fun _ => true) true n t [v] with
      | none => exact (hn (hy.symm.trans hy')).elim
      | some z => exact ⟨z, rfl⟩
    have hxl : xs.length = 8 := by assumption
    have hx : ∀ i, i < 8 → xs[i]? = none → False := fun i hi e => by
      have := List.getElem?_eq_none_iff.1 e
      omega
    obtain ⟨z0, h0⟩ := get (by simpa [Try.cellsN3] using hf 0 _ rfl) (hx 0 (by omega))
    obtain ⟨z1, h1⟩ := get (by simpa [Try.cellsN9] using hf 1 _ rfl) (hx 1 (by omega))
    obtain ⟨z2, h2⟩ := get (by simpa [Try.cellsN9] using hf 2 _ rfl) (hx 2 (by omega))
    obtain ⟨z3, h3⟩ := get (by simpa [Try.cellsN4] using hf 3 _ rfl) (hx 3 (by omega))
    obtain ⟨z4, h4⟩ := get (by simpa [Try.cellsN3] using hf 4 _ rfl) (hx 4 (by omega))
    obtain ⟨z5, h5⟩ := get (by simpa [Try.cellsNs] using hf 5 _ rfl) (hx 5 (by omega))
    obtain ⟨z6, h6⟩ := get (by simpa [Try.cellsNu] using hf 6 _ rfl) (hx 6 (by omega))
    obtain ⟨z7, h7⟩ := get (by simpa [Try.cellsNi] using hf 7 _ rfl) (hx 7 (by omega))
    obtain ⟨n0, e0, _, w0⟩ := DataW.trod_int Try.underlying3 h0
    obtain ⟨s1, e1, _, w1⟩ := DataW.trod_string Try.underlying9 h1
    obtain ⟨s2, e2, _, w2⟩ := DataW.trod_string Try.underlying9 h2
    obtain ⟨b3, e3, _⟩ := DataW.trod_bool Try.underlying4 h3
    obtain ⟨n4, e4, _, w4⟩ := DataW.trod_int Try.underlying3 h4
    obtain ⟨ak, nk, ck, rfl⟩ := slice_form Try.underlying33 h5
    obtain ⟨av, nv, cv, rfl⟩ := slice_form Try.underlying34 h6
    obtain ⟨ac, nc, cc, rfl⟩ := slice_form Try.underlying35 h7
    obtain ⟨ks, hk⟩ := texts_read h5
    obtain ⟨vs, hv⟩ := words_rd h6
    obtain ⟨cs, hc, hwz, _⟩ := ints_read h7
    simp at e0 e1 e2 e3 e4
    subst e0 e1 e2 e3 e4
    exact ⟨_, _, _, _, _, _, _, _, _, _, _, _, _, _, ks, vs, cs, rfl, ⟨hk, hv, hc⟩, w4, hwz⟩
set_option maxRecDepth 100000 in
set_option maxHeartbeats 1000000 in
theorem known_readw {fuel : Nat} {l : List Value} {x : DataW H × List MemPlace} (h : DataW.trod enc Try.prog w 0 (fun _ => true) true fuel 39 l = some x) :
    ∃ (kc kw kv lv nx : Int) (lo hi : ByteArray) (la : Bool) (ak av ac : Option Addr) (nk ck nv cv nc cc : Nat) (ks : List ByteArray) (vs : List Nat) (cs : List Int), l = [.int .i64 kc, .int .u64 kw, .int .u64 kv, .int .i64 lv, .string lo, .string hi, .bool la, .int .i64 nx, .slice ak nk ck, .slice av nv cv, .slice ac nc cc] ∧ NdAt w ak av ac nk ck nv cv nc cc ks vs cs ∧ (Lit.int .i64 nx).wf = true ∧ ∀ z ∈ cs, (Lit.int .i64 z).wf = true := by
  obtain ⟨xs, n, _, _, hlen, _, hf⟩ := DataW.trod_struct Try.underlying39 h
  rw [Try.cellsKnown] at hlen
  match l, hlen with
  | [a, b, c, d0, d1, d2, d3, d4, d5, d6, d7], _ =>
    have get : ∀ {y : Option (DataW H × List MemPlace)} {t : TypeId} {v : List Value}, DataW.trod enc Try.prog w 0 (fun _ => true) true n t v = y → (y = none → False) → ∃ z, DataW.trod enc Try.prog w 0 (fun _ => true) true n t v = some z := by
      intro y t v hy hn
      cases hy' : DataW.trod enc Try.prog w 0 (fun _ => true) true n t v with
      | none => exact (hn (hy.symm.trans hy')).elim
      | some z => exact ⟨z, rfl⟩
    have hxl : xs.length = 4 := by assumption
    have hx : ∀ i, i < 4 → xs[i]? = none → False := fun i hi e => by
      have := List.getElem?_eq_none_iff.1 e
      omega
    obtain ⟨z0, h0⟩ := get (v := [a]) (by simpa [Try.cellsN3] using hf 0 _ rfl) (hx 0 (by omega))
    obtain ⟨z1, h1⟩ := get (v := [b]) (by simpa [Try.cellsN3, Try.cellsNU] using hf 1 _ rfl) (hx 1 (by omega))
    obtain ⟨z2, h2⟩ := get (v := [c]) (by simpa [Try.cellsN3, Try.cellsNU] using hf 2 _ rfl) (hx 2 (by omega))
    obtain ⟨z3, h3⟩ := get (v := [d0, d1, d2, d3, d4, d5, d6, d7]) (by simpa [Try.cellsN3, Try.cellsNU, Try.cellsNode] using hf 3 _ rfl) (hx 3 (by omega))
    obtain ⟨n0, e0, _, w0⟩ := DataW.trod_int Try.underlying3 h0
    obtain ⟨n1, e1, _, w1⟩ := DataW.trod_int Try.underlying32 h1
    obtain ⟨n2, e2, _, w2⟩ := DataW.trod_int Try.underlying32 h2
    obtain ⟨lv, nx, lo, hi, la, ak, av, ac, nk, ck, nv, cv, nc, cc, ks, vs, cs, hcs, hN, hw1, hw2⟩ := node_readw h3
    simp at e0 e1 e2 hcs
    obtain ⟨rfl, rfl, rfl, rfl, rfl, rfl, rfl, rfl⟩ := hcs
    subst e0 e1 e2
    exact ⟨_, _, _, _, _, _, _, _, _, _, _, _, _, _, _, _, _, ks, vs, cs, rfl, hN, hw1, hw2⟩

/-- A known, told of its cells. -/
theorem kn_read {fuel : Nat} {l : List Value} {x : DataW H × List MemPlace} (h : DataW.trod enc Try.prog w 0 (fun _ => true) true fuel 39 l = some x) :
    ∃ kn : Kn, KL (PV w) l kn ∧ (Lit.int .i64 kn.n.nx).wf = true ∧ ∀ j, j < kn.n.cs.length → (Lit.int .i64 (ni kn.n.cs j)).wf = true := by
  obtain ⟨kc, kw, kv, lv, nx, lo, hi, la, ak, av, ac, nk, ck, nv, cv, nc, cc, ks, vs, cs, rfl, hN, hw1, hw2⟩ := known_readw h
  obtain rfl : ks.length = nk := (rd_len hN.k).1
  obtain rfl : vs.length = nv := (rd_len hN.v).1
  obtain rfl : cs.length = nc := (rd_len hN.c).1
  refine ⟨⟨kc, kw, kv, ⟨lv, nx, lo, hi, la, ks, vs, cs⟩⟩, ⟨ak, _, ck, av, _, cv, ac, _, cc, rfl, ⟨ak, av, ac, ck, cv, cc, rfl, hN⟩⟩, hw1, fun j hj => ?_⟩
  rw [ni_eq hj]
  exact hw2 _ (List.getElem_mem hj)
instance : Inhabited Kn := ⟨Kn.zero⟩
/-- A row of knowns that came in. -/
theorem kns_read {fuel : Nat} {ao : Option Addr} {len cap : Nat} {x : DataW H × List MemPlace} (h : DataW.trod enc Try.prog w 0 (fun _ => true) true fuel 26 [.slice ao len cap] = some x) :
    ∃ ks : List Kn, KsAt (PV w) w (.slice ao len cap) ks ∧ NumOk ks := by
  rcases open_slice Try.underlying26 h with ⟨hcs, _⟩ | ⟨a, len', cap', m, n, D, Pl, hcs, _, hl, hm, hmm, _, hx⟩
  · simp at hcs
    obtain ⟨rfl, rfl, rfl⟩ := hcs
    exact ⟨[], KsAt.nil _ _, fun kn h => by cases h⟩
  · simp at hcs
    obtain ⟨rfl, rfl, rfl⟩ := hcs
    simp only [if_true] at hmm
    rw [Try.cellsKnown] at hx
    obtain ⟨X, hX⟩ := choose_lt (α := Kn) (n := len) (p := fun i kn => (∃ l, KL (PV w) l kn ∧ ∀ j v, l[j]? = some v → w.cell? (a.add (i * 11 + j)) = some v) ∧ (Lit.int .i64 kn.n.nx).wf = true ∧ ∀ j, j < kn.n.cs.length → (Lit.int .i64 (ni kn.n.cs j)).wf = true) (fun i hi => by
      obtain ⟨cs', h1, h2⟩ := hx i (by omega)
      obtain ⟨kn, hkl, hw1, hw2⟩ := kn_read h2
      obtain ⟨_, hlen, hc⟩ := World.cells?_some h1
      refine ⟨kn, ⟨_, hkl, fun j v hv => ?_⟩, hw1, hw2⟩
      have hj : j < 11 := by have := (List.getElem?_eq_some_iff.1 hv).1; rw [hkl.len] at this; exact this
      have := hc j (by omega)
      rw [add_add] at this
      rw [this]
      exact hv)
    have hbl : ((List.range len).map X).length = len := by simp
    have hat : ∀ i, i < len → kAt ((List.range len).map X) i = X i := fun i hi => by
      rw [kAt_eq (by rw [hbl]; exact hi)]
      simp
    refine ⟨(List.range len).map X, ⟨some a, cap, by rw [hbl], by rw [hbl]; omega, by unfold maxLen at hm; omega, fun hne => ?_⟩, fun kn hm => ?_⟩
    · rw [hbl] at hne
      obtain ⟨b, off, spot⟩ := a
      obtain ⟨l0, hl0, hc0⟩ := (hX 0 hne).1
      obtain ⟨v0, hv0⟩ : ∃ v, l0[0]? = some v := ⟨_, List.getElem?_eq_getElem (by rw [hl0.len]; omega)⟩
      have hz := hc0 0 v0 hv0
      have hspot : spot = none := by simpa [Addr.add] using World.cell?_spot hz
      subst hspot
      refine ⟨b, off, rfl, fun j hj => ?_⟩
      rw [hbl] at hj
      rw [hat j hj]
      obtain ⟨l, hl, hc⟩ := (hX j hj).1
      refine ⟨l, hl, fun i hi => ?_⟩
      obtain ⟨v, hv⟩ : ∃ v, l[i]? = some v := ⟨_, List.getElem?_eq_getElem (by rw [hl.len]; exact hi)⟩
      have := hc i v hv
      rw [add_place, ← Nat.add_assoc] at this
      rw [this, hv]
    · obtain ⟨i, hi, rfl⟩ := List.mem_map.1 hm
      exact (hX i (List.mem_range.1 hi)).2
end
end Go.Proofs.Ytefmnfplipdnmaa

namespace Go.Proofs.Ytefmnfplipdnmaa
open Go.ChangeShapes Go.WideShapes Go.ChangeAt Go.RowKit Go.ChangeMaps

theorem Try.cellsAsk : Try.prog.cellsOf 75 = 2 := by kernel_rfl
set_option maxRecDepth 100000 in
set_option maxHeartbeats 1000000 in
theorem ask_read {H : Type} {enc : TypeId × Value → H} {w : World} {fuel : Nat} {l : List Value} {x : DataW H × List MemPlace} (h : DataW.trod enc Try.prog w 0 (fun _ => true) true fuel 75 l = some x) :
    ∃ (kind : Int) (k : ByteArray), l = [.int .i64 kind, .string k] := by
  obtain ⟨xs, n, _, _, hlen, _, hf⟩ := DataW.trod_struct Try.underlying75 h
  rw [Try.cellsAsk] at hlen
  match l, hlen with
  | [a, b], _ =>
    have get : ∀ {y : Option (DataW H × List MemPlace)} {t : TypeId} {v : Value}, DataW.trod enc Try.prog w 0 (fun _ => true) true n t [v] = y → (y = none → False) → ∃ z, DataW.trod enc Try.prog w 0 (fun _ => true) true n t [v] = some z := by
      intro y t v hy hn
      cases hy' : DataW.trod enc Try.prog w 0 (fun _ => true) true n t [v] with
      | none => exact (hn (hy.symm.trans hy')).elim
      | some z => exact ⟨z, rfl⟩
    have hxl : xs.length = 2 := by assumption
    have hx : ∀ i, i < 2 → xs[i]? = none → False := fun i hi e => by
      have := List.getElem?_eq_none_iff.1 e
      omega
    obtain ⟨z0, h0⟩ := get (by simpa [Try.cellsN3] using hf 0 _ rfl) (hx 0 (by omega))
    obtain ⟨z1, h1⟩ := get (by simpa [Try.cellsN9] using hf 1 _ rfl) (hx 1 (by omega))
    obtain ⟨n0, e0, _, _⟩ := DataW.trod_int Try.underlying3 h0
    obtain ⟨s1, e1, _, _⟩ := DataW.trod_string Try.underlying9 h1
    simp at e0 e1
    subst e0 e1
    exact ⟨_, _, rfl⟩
set_option maxRecDepth 100000 in
theorem findWays_lifted (os : Os) (started : os.Started) (H : Type) (enc : TypeId × Value → H) :
    ReturnsInHanded {} Try.checked os 5 .any (Rows.findWaysSpec.pre6 enc Try.prog Try.f5 Rows.findWaysRow.domain false) (Rows.findWaysSpec.post enc Try.prog Try.f5 false true false false) := by
  refine returnsInHanded_of_change (C := Try.checked) Try.ownN started (by kernel_rfl) Try.func5
    (ChangeSpec.witness6 (enc := enc) (C := Try.checked) false ⟨#[], #[.slice none 0 0, .agg #[.int .i64 0, .string ⟨#[]⟩], .int .i64 0], []⟩ 8 (by kernel_rfl) (by kernel_rfl) (by kernel_rfl) (by kernel_rfl)) ?_
  intro W base args ds gs before hval0 hW _ _
  have hval : ∀ (j : Nat) t v, Try.f5.params[j]? = some t → args[j]? = some v → Value.okWide Try.prog W .any base t v := hval0
  have hW' := hW
  obtain ⟨p, q, hA0, hV, rfl, _, _⟩ := hW
  have hA : DataW.TrodAll enc Try.prog W 0 (fun _ => true) true Try.f5.params.toList args.toList ds p := hA0
  rw [Try.params5] at hA hval
  obtain ⟨v0, v1, v2, d0, d1, d2, p0, p1, p2, rfl, rfl, rfl, h0, h1, h2⟩ := trodAll_three hA
  obtain ⟨rfl, rfl⟩ := trodVars_none hV
  obtain ⟨a0, len, cap, rfl⟩ := okWide_slice Try.underlying26 (hval 0 26 v0 rfl rfl)
  obtain ⟨l, rfl, hsz⟩ := okWide_struct Try.underlying75 (hval 1 75 v1 rfl rfl)
  obtain ⟨a2, rfl, rfl, rfl, hs2⟩ := open_int Try.underlying3 (hval 2 3 v2 rfl rfl) h2
  have h0k := h0
  have h1k := h1
  obtain ⟨fuel, hf⟩ := h0
  obtain ⟨fuel1, hf1⟩ := h1
  clear hA0 hval0
  simp only [List.append_nil] at hW'
  have hlt0 : ∀ x ∈ p0, x.block < W.heap.size := fun x hx => hW'.lt x (by simp [hx])
  have hlt1 : ∀ x ∈ p1, x.block < W.heap.size := fun x hx => hW'.lt x (by simp [hx])
  obtain ⟨ks, hks, hnum⟩ := kns_read (by simpa [Value.cells] using hf)
  obtain ⟨kind, k, hcs⟩ := ask_read (by simpa [Value.cells] using hf1)
  have hca : l = #[.int .i64 kind, .string k] := by
    apply Array.ext'
    exact hcs
  subst hca
  refine (findWays_any a0 len cap ks kind a2 k W hks hnum).mono fun e W' ⟨he, hb⟩ => ?_
  subst he
  refine ⟨_, rfl, _, _, _, [], p0 ++ p1, [], hW', trodAll_mk1 (shut_bool Try.underlying4 _), ?_, rfl, hb.frame _, fun h => by cases h⟩
  have ht := trodAll_mk3 (Below.trod Try.laidOut (by kernel_rfl) (of_decide_eq_true (by kernel_rfl)) h0k hb hlt0) (Below.trod Try.laidOut (by kernel_rfl) (of_decide_eq_true (by kernel_rfl)) h1k hb hlt1) (shut_int (w := W') Try.underlying3 hs2)
  simp only [List.append_nil] at ht
  exact ht

theorem findWays_holds : Rows.FindWaysSaid :=
  OpenClaim.holds_of_wide 5 Try.f5 rfl rfl rfl rfl rfl rfl rfl ⟨rfl, rfl, rfl, rfl, rfl⟩ rfl rfl rfl rfl rfl (by kernel_rfl) Try.func5 (by kernel_rfl)
    (of_decide_eq_true (by kernel_rfl)) (by unfold Func.isWrapper; rw [if_neg (by decide +kernel)]; exact ⟨rfl, rfl⟩)
    (fun os started H enc _ => findWays_lifted os started H enc)
end Go.Proofs.Ytefmnfplipdnmaa
