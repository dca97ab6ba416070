/- The law ForestPlays: whatever is learned, forgotten and asked for, a view answers, knows and lacks what the document says: it returns true for all arguments, and they read behind the call as they read before. No condition. -/
import Derived.Test.YtefmnfplipdnmaaFrPlays
import Derived.Test.YtefmnfplipdnmaaForestRead
namespace Go.Proofs.Ytefmnfplipdnmaa
open Go.ChangeShapes Go.WideShapes Go.ChangeAt Go.RowKit Go.Deep Go.ChangeMaps

theorem Try.cellsAct : Try.prog.cellsOf 41 = 13 := by kernel_rfl
instance : Inhabited Ac := ⟨Ac.zero⟩
section
variable {H : Type} {enc : TypeId × Value → H} {w : World}
set_option maxRecDepth 100000 in
set_option maxHeartbeats 1000000 in
theorem known_readc {fuel : Nat} {l : List Value} {x : DataW H × List MemPlace} (h : DataW.trod enc Try.prog w 0 (fun _ => true) true fuel 39 l = some x) :
    ∃ (kc kw kv lv nx : Int) (lo hi : ByteArray) (la : Bool) (ak av ac : Option Addr) (nk ck nv cv nc cc : Nat) (ks : List ByteArray) (vs : List Nat) (cs : List Int), l = [.int .i64 kc, .int .u64 kw, .int .u64 kv, .int .i64 lv, .string lo, .string hi, .bool la, .int .i64 nx, .slice ak nk ck, .slice av nv cv, .slice ac nc cc] ∧ NdAt w ak av ac nk ck nv cv nc cc ks vs cs ∧ (Lit.int .i64 kc).wf = true := by
  obtain ⟨xs, n, _, _, hlen, _, hf⟩ := DataW.trod_struct Try.underlying39 h
  rw [Try.cellsKnown] at hlen
  match l, hlen with
  | [a, b, c, d0, d1, d2, d3, d4, d5, d6, d7], _ =>
    have get : ∀ {y : Option (DataW H × List MemPlace)} {t : TypeId} {v : List Value}, DataW.trod enc Try.prog w 0 (fun _ => true) true n t v = y → (y = none → False) → ∃ z, DataW.trod enc Try.prog w 0 (fun _ => true) true n t v = some z := by
      intro y t v hy hn
      cases hy' : DataW.trod enc Try.prog w 0 (fun _ => true) true n t v with
      | none => exact (hn (hy.symm.trans hy')).elim
      | some z => exact ⟨z, rfl⟩
    have hxl : xs.length = 4 := by assumption
    have hx : ∀ i, i < 4 → xs[i]? = none → False := fun i hi e => by
      have := List.getElem?_eq_none_iff.1 e
      omega
    obtain ⟨z0, h0⟩ := get (v := [a]) (by simpa [Try.cellsN3] using hf 0 _ rfl) (hx 0 (by omega))
    obtain ⟨z1, h1⟩ := get (v := [b]) (by simpa [Try.cellsN3, Try.cellsNU] using hf 1 _ rfl) (hx 1 (by omega))
    obtain ⟨z2, h2⟩ := get (v := [c]) (by simpa [Try.cellsN3, Try.cellsNU] using hf 2 _ rfl) (hx 2 (by omega))
    obtain ⟨z3, h3⟩ := get (v := [d0, d1, d2, d3, d4, d5, d6, d7]) (by simpa [Try.cellsN3, Try.cellsNU, Try.cellsNode] using hf 3 _ rfl) (hx 3 (by omega))
    obtain ⟨n0, e0, _, w0⟩ := DataW.trod_int Try.underlying3 h0
    obtain ⟨n1, e1, _, w1⟩ := DataW.trod_int Try.underlying32 h1
    obtain ⟨n2, e2, _, w2⟩ := DataW.trod_int Try.underlying32 h2
    obtain ⟨lv, nx, lo, hi, la, ak, av, ac, nk, ck, nv, cv, nc, cc, ks, vs, cs, hcs, hN⟩ := node_read h3
    simp at e0 e1 e2 hcs
    obtain ⟨rfl, rfl, rfl, rfl, rfl, rfl, rfl, rfl⟩ := hcs
    subst e0 e1 e2
    exact ⟨_, _, _, _, _, _, _, _, _, _, _, _, _, _, _, _, _, ks, vs, cs, rfl, hN, w0⟩
set_option maxRecDepth 100000 in
set_option maxHeartbeats 1000000 in
/-- An act, told of its cells. -/
theorem ac_read {fuel : Nat} {l : List Value} {x : DataW H × List MemPlace} (h : DataW.trod enc Try.prog w 0 (fun _ => true) true fuel 41 l = some x) :
    ∃ (a : Ac) (l2 : List Value), l = .int .i64 a.kd :: .int .i64 a.n :: l2 ∧ KL (PV w) l2 a.kn ∧ (Lit.int .i64 a.n).wf = true ∧ (Lit.int .i64 a.kn.c).wf = true := by
  obtain ⟨xs, n, _, _, hlen, _, hf⟩ := DataW.trod_struct Try.underlying41 h
  rw [Try.cellsAct] at hlen
  match l, hlen with
  | [a, b, d0, d1, d2, d3, d4, d5, d6, d7, d8, d9, d10], _ =>
    have get : ∀ {y : Option (DataW H × List MemPlace)} {t : TypeId} {v : List Value}, DataW.trod enc Try.prog w 0 (fun _ => true) true n t v = y → (y = none → False) → ∃ z, DataW.trod enc Try.prog w 0 (fun _ => true) true n t v = some z := by
      intro y t v hy hn
      cases hy' : DataW.trod enc Try.prog w 0 (fun _ => true) true n t v with
      | none => exact (hn (hy.symm.trans hy')).elim
      | some z => exact ⟨z, rfl⟩
    have hxl : xs.length = 3 := by assumption
    have hx : ∀ i, i < 3 → xs[i]? = none → False := fun i hi e => by
      have := List.getElem?_eq_none_iff.1 e
      omega
    obtain ⟨z0, h0⟩ := get (v := [a]) (by simpa [Try.cellsN3] using hf 0 _ rfl) (hx 0 (by omega))
    obtain ⟨z1, h1⟩ := get (v := [b]) (by simpa [Try.cellsN3] using hf 1 _ rfl) (hx 1 (by omega))
    obtain ⟨z2, h2⟩ := get (v := [d0, d1, d2, d3, d4, d5, d6, d7, d8, d9, d10]) (by simpa [Try.cellsN3, Try.cellsKnown] using hf 2 _ rfl) (hx 2 (by omega))
    obtain ⟨n0, e0, _, w0⟩ := DataW.trod_int Try.underlying3 h0
    obtain ⟨n1, e1, _, w1⟩ := DataW.trod_int Try.underlying3 h1
    obtain ⟨kc, kw, kv, lv, nx, lo, hi, la, ak, av, ac, nk, ck, nv, cv, nc, cc, ks, vs, cs, hcs, hN, hwc⟩ := known_readc h2
    simp at e0 e1
    subst e0 e1
    obtain rfl : ks.length = nk := (rd_len hN.k).1
    obtain rfl : vs.length = nv := (rd_len hN.v).1
    obtain rfl : cs.length = nc := (rd_len hN.c).1
    rw [hcs]
    exact ⟨⟨n0, n1, ⟨kc, kw, kv, ⟨lv, nx, lo, hi, la, ks, vs, cs⟩⟩⟩, _, rfl, ⟨ak, _, ck, av, _, cv, ac, _, cc, rfl, ⟨ak, av, ac, ck, cv, cc, rfl, hN⟩⟩, w1, hwc⟩
/-- A row of acts that came in. -/
theorem acs_read {fuel : Nat} {ao : Option Addr} {len cap : Nat} {x : DataW H × List MemPlace} (h : DataW.trod enc Try.prog w 0 (fun _ => true) true fuel 22 [.slice ao len cap] = some x) :
    ∃ al : List Ac, AcsAt w (.slice ao len cap) al ∧ (∀ j, j < len → (Lit.int .i64 (acAt al j).n).wf = true ∧ (Lit.int .i64 (acAt al j).kn.c).wf = true) ∧ len = al.length := by
  rcases open_slice Try.underlying22 h with ⟨hcs, _⟩ | ⟨a, len', cap', m, n, D, Pl, hcs, _, hl, hm, hmm, _, hx⟩
  · simp at hcs
    obtain ⟨rfl, rfl, rfl⟩ := hcs
    exact ⟨[], ⟨none, 0, rfl, Nat.le_refl _, by omega, fun h => absurd h (by simp)⟩, fun j hj => absurd hj (Nat.not_lt_zero _), rfl⟩
  · simp at hcs
    obtain ⟨rfl, rfl, rfl⟩ := hcs
    simp only [if_true] at hmm
    rw [Try.cellsAct] at hx
    obtain ⟨X, hX⟩ := choose_lt (α := Ac) (n := len) (p := fun i a2 => (∃ l2, KL (PV w) l2 a2.kn ∧ ∀ j v, (Value.int .i64 a2.kd :: Value.int .i64 a2.n :: l2)[j]? = some v → w.cell? (a.add (i * 13 + j)) = some v) ∧ (Lit.int .i64 a2.n).wf = true ∧ (Lit.int .i64 a2.kn.c).wf = true) (fun i hi => by
      obtain ⟨cs', h1, h2⟩ := hx i (by omega)
      obtain ⟨a2, l2, hcs2, hkl, hw1, hw2⟩ := ac_read h2
      obtain ⟨_, hlen, hc⟩ := World.cells?_some h1
      refine ⟨a2, ⟨l2, hkl, fun j v hv => ?_⟩, hw1, hw2⟩
      rw [← hcs2] at hv
      have hj : j < 13 := by
        have := (List.getElem?_eq_some_iff.1 hv).1
        rw [hcs2] at this
        simp only [List.length_cons, hkl.len] at this
        exact this
      have := hc j (by omega)
      rw [add_add] at this
      rw [this]
      exact hv)
    have hbl : ((List.range len).map X).length = len := by simp
    have hat : ∀ i, i < len → acAt ((List.range len).map X) i = X i := fun i hi => by
      unfold acAt
      rw [List.getD_eq_getElem?_getD, List.getElem?_eq_getElem (by rw [hbl]; exact hi)]
      simp
    refine ⟨(List.range len).map X, ⟨some a, cap, by rw [hbl], by rw [hbl]; omega, by unfold maxLen at hm; omega, fun hne => ?_⟩, fun j hj => by rw [hat j hj]; exact (hX j hj).2, hbl.symm⟩
    rw [hbl] at hne
    obtain ⟨b, off, spot⟩ := a
    obtain ⟨l0, hl0, hc0⟩ := (hX 0 hne).1
    have hz := hc0 0 _ rfl
    have hspot : spot = none := by simpa [Addr.add] using World.cell?_spot hz
    subst hspot
    refine ⟨b, off, rfl, fun j hj => ?_⟩
    rw [hbl] at hj
    rw [hat j hj]
    obtain ⟨l, hl, hc⟩ := (hX j hj).1
    have h0 := hc 0 _ rfl
    have h1 := hc 1 _ rfl
    rw [add_place] at h0 h1
    refine ⟨l, hl, h0, h1, fun i hi => ?_⟩
    obtain ⟨v, hv⟩ : ∃ v, l[i]? = some v := ⟨_, List.getElem?_eq_getElem (by rw [hl.len]; exact hi)⟩
    have := hc (i + 2) v (by simpa using hv)
    rw [add_place] at this
    rw [show off + j * 13 + 2 + i = off + (j * 13 + (i + 2)) by omega, this, hv]
end

set_option maxRecDepth 100000 in
theorem forestPlays_lifted (os : Os) (started : os.Started) (H : Type) (enc : TypeId × Value → H) :
    ReturnsInHanded {} Try.checked os 3 .any (Rows.forestPlaysSpec.pre6 enc Try.prog Try.f3 Rows.forestPlaysRow.domain false) (Rows.forestPlaysSpec.post enc Try.prog Try.f3 false true false false) := by
  refine returnsInHanded_of_change (C := Try.checked) Try.ownN started (by kernel_rfl) Try.func3
    (ChangeSpec.witness6 (enc := enc) (C := Try.checked) false ⟨#[], #[.slice none 0 0], []⟩ 8 (by kernel_rfl) (by kernel_rfl) (by kernel_rfl) (by kernel_rfl)) ?_
  intro W base args ds gs before hval0 hW _ _
  have hval : ∀ (j : Nat) t v, Try.f3.params[j]? = some t → args[j]? = some v → Value.okWide Try.prog W .any base t v := hval0
  have hW' := hW
  obtain ⟨p, q, hA0, hV, rfl, _, _⟩ := hW
  have hA : DataW.TrodAll enc Try.prog W 0 (fun _ => true) true Try.f3.params.toList args.toList ds p := hA0
  rw [Try.params3] at hA hval
  obtain ⟨v0, d0, rfl, rfl, h0⟩ := trodAll_one hA
  obtain ⟨rfl, rfl⟩ := trodVars_none hV
  obtain ⟨a0, len, cap, rfl⟩ := okWide_slice Try.underlying22 (hval 0 22 v0 rfl rfl)
  have h0k := h0
  obtain ⟨fuel, hf⟩ := h0
  clear hA0 hval0
  simp only [List.append_nil] at hW'
  have hlt0 : ∀ x ∈ p, x.block < W.heap.size := fun x hx => hW'.lt x (by simp [hx])
  obtain ⟨al, hal, hwf, hl⟩ := acs_read (by simpa [Value.cells] using hf)
  refine (forestPlays_any a0 len cap al W hal hwf hl).mono fun e W' ⟨he, hb⟩ => ?_
  subst he
  refine ⟨_, rfl, _, _, _, [], p, [], hW', trodAll_mk1 (shut_bool Try.underlying4 _), ?_, rfl, hb.frame _, fun h => by cases h⟩
  have ht := trodAll_mk1 (Below.trod Try.laidOut (by kernel_rfl) (of_decide_eq_true (by kernel_rfl)) h0k hb hlt0)
  try simp only [List.append_nil] at ht
  exact ht

theorem forestPlays_holds : Rows.ForestPlaysSaid :=
  OpenClaim.holds_of_wide 3 Try.f3 rfl rfl rfl rfl rfl rfl rfl ⟨rfl, rfl, rfl, rfl, rfl⟩ rfl rfl rfl rfl rfl (by kernel_rfl) Try.func3 (by kernel_rfl)
    (of_decide_eq_true (by kernel_rfl)) (by unfold Func.isWrapper; rw [if_neg (by decide +kernel)]; exact ⟨rfl, rfl⟩)
    (fun os started H enc _ => forestPlays_lifted os started H enc)
end Go.Proofs.Ytefmnfplipdnmaa
