/- How an argument of type Item is read: its cells, and those of its lists. No condition. -/
import Derived.Test.YtbghemndcndhpaaDoorBoxBase
import Derived.Test.YtbghemndcndhpaaDoorBoxMem
import Derived.Deep.Slices
import Derived.Deep.Fields
namespace Go.Proofs.YtbghemndcndhpaaDoor
open Go.ChangeShapes Go.WideShapes Go.ChangeAt Go.RowKit Go.Deep

theorem Tryd.cellsItem5 : Tryd.prog.cellsOf 25 = 4 := by kernel_rfl
theorem Tryd.cellsI5 : Tryd.prog.cellsOf 3 = 1 := by kernel_rfl
theorem Tryd.cellsS5 : Tryd.prog.cellsOf 9 = 1 := by kernel_rfl
theorem Tryd.cellsL5 : Tryd.prog.cellsOf 23 = 1 := by kernel_rfl

theorem sits_mk {S : Nat → Prop} {w : World} {b : Nat} : ∀ {l : List Itm} {o : Nat}, (∀ i (hi : i < l.length), ∃ v0 v1 v2 v3, w.cell? ⟨b, o + i * 4, none⟩ = some v0 ∧ w.cell? ⟨b, o + i * 4 + 1, none⟩ = some v1 ∧ w.cell? ⟨b, o + i * 4 + 2, none⟩ = some v2 ∧ w.cell? ⟨b, o + i * 4 + 3, none⟩ = some v3 ∧ Sits S w l[i] (.agg #[v0, v1, v2, v3])) → SitsL S w b o l
  | [], _, _ => by rw [SitsL]; trivial
  | x :: l, o, h => by
    rw [SitsL]
    refine ⟨by have h0 := h 0 (by simp); simpa using h0, sits_mk (fun i hi => ?_)⟩
    have := h (i + 1) (by simpa using hi)
    rw [show o + (i + 1) * 4 = o + 4 + i * 4 by omega] at this
    exact this

section
variable {H : Type} {enc : TypeId × Value → H} {w : World}

theorem itm_read (fuel : Nat) : ∀ {cs : List Value} {x : DataW H × List MemPlace}, DataW.trod enc Tryd.prog w 0 (fun _ => true) true fuel 25 cs = some x →
    ∃ (it : Itm) (a b c d : Value), cs = [a, b, c, d] ∧ Sits (fun k => k < w.heap.size) w it (.agg #[a, b, c, d]) ∧ okI it := by
  induction fuel using Nat.strongRecOn with
  | ind fuel ih =>
    intro cs x h
    obtain ⟨xs, n, hfu, _, hlen, hxl, hf⟩ := DataW.trod_struct Tryd.underlying25 h
    rw [Tryd.cellsItem5] at hlen
    match cs, hlen with
    | [a, b, c, d], _ =>
      have get : ∀ {y : Option (DataW H × List MemPlace)} {t : TypeId} {v : Value}, DataW.trod enc Tryd.prog w 0 (fun _ => true) true n t [v] = y → (y = none → False) → ∃ z, DataW.trod enc Tryd.prog w 0 (fun _ => true) true n t [v] = some z := by
        intro y t v hy hn
        cases hy' : DataW.trod enc Tryd.prog w 0 (fun _ => true) true n t [v] with
        | none => exact (hn (hy.symm.trans hy')).elim
        | some z => exact ⟨z, rfl⟩
      have hx : ∀ i, i < 4 → xs[i]? = none → False := fun i hi e => by
        have := List.getElem?_eq_none_iff.1 e
        rw [hxl] at this
        simp at this
        omega
      obtain ⟨z0, h0⟩ := get (by simpa [Tryd.cellsI5] using hf 0 _ rfl) (hx 0 (by omega))
      obtain ⟨z1, h1⟩ := get (by simpa [Tryd.cellsU] using hf 1 _ rfl) (hx 1 (by omega))
      obtain ⟨z2, h2⟩ := get (by simpa [Tryd.cellsS5] using hf 2 _ rfl) (hx 2 (by omega))
      obtain ⟨z3, h3⟩ := get (by simpa [Tryd.cellsL5] using hf 3 _ rfl) (hx 3 (by omega))
      obtain ⟨n0, e0, _, w0⟩ := DataW.trod_int Tryd.underlying3 h0
      obtain ⟨n1, e1, _, w1⟩ := DataW.trod_int Tryd.underlying22 h1
      obtain ⟨s, e2, _, ws⟩ := DataW.trod_string Tryd.underlying9 h2
      have b1 := u64_bounds w1
      simp at e0 e1 e2
      subst e0 e1 e2
      have hss : s.size ≤ 9223372036854775807 := by simpa [maxLen] using ws
      rcases DataW.trod_slice Tryd.underlying23 h3 with ⟨e3, _⟩ | ⟨ad, len, cap, elems, rest, m, hnm, e3, _, _, hl, hm, hel, hgt, _, _⟩
      · simp at e3
        subst e3
        exact ⟨.mk n0 n1 s [], _, _, _, _, rfl, by rw [Sits]; exact ⟨none, 0, rfl, ⟨Nat.le_refl _, by omega⟩, Or.inl rfl⟩, by rw [okI, okIs]; exact ⟨b1, hss, trivial⟩⟩
      · simp at e3
        subst e3
        rw [Tryd.cellsItem5] at hgt
        have hex : ∀ i : Nat, ∃ it : Itm, i < len → okI it ∧ ∃ v0 v1 v2 v3, w.cell? (ad.add (i * 4)) = some v0 ∧ w.cell? (ad.add (i * 4 + 1)) = some v1 ∧ w.cell? (ad.add (i * 4 + 2)) = some v2 ∧ w.cell? (ad.add (i * 4 + 3)) = some v3 ∧ Sits (fun k => k < w.heap.size) w it (.agg #[v0, v1, v2, v3]) := by
          intro i
          by_cases hi : i < len
          · have key := hgt i hi
            rw [List.getElem?_eq_getElem (by omega)] at key
            obtain ⟨cs', k1, k2⟩ := Option.bind_eq_some_iff.1 key
            obtain ⟨it, v0, v1, v2, v3, rfl, hs, ho⟩ := ih m (by omega) k2
            obtain ⟨_, _, hc⟩ := World.cells?_some k1
            have c0 := hc 0 (by omega)
            have c1 := hc 1 (by omega)
            have c2 := hc 2 (by omega)
            have c3 := hc 3 (by omega)
            simp only [add_add, Nat.add_zero] at c0 c1 c2 c3
            exact ⟨it, fun _ => ⟨ho, v0, v1, v2, v3, c0, c1, c2, c3, hs⟩⟩
          · exact ⟨.mk 0 0 ⟨#[]⟩ [], fun h => absurd h hi⟩
        obtain ⟨X, hX⟩ := Classical.axiomOfChoice hex
        have hl2 : ((List.range len).map X).length = len := by simp
        refine ⟨.mk n0 n1 s ((List.range len).map X), _, _, _, _, rfl, ?_, ?_⟩
        · rw [Sits, hl2]
          refine ⟨some ad, cap, rfl, ⟨hl, by unfold maxLen at hm; omega⟩, ?_⟩
          by_cases h0 : len = 0
          · exact Or.inl (by subst h0; rfl)
          · right
            obtain ⟨v0, v1, v2, v3, c0, c1, c2, c3, _⟩ := (hX 0 (by omega)).2
            obtain ⟨bk, off, spot⟩ := ad
            have hspot : spot = none := by simpa [Addr.add] using World.cell?_spot c0
            subst hspot
            refine ⟨bk, off, rfl, ?_, sits_mk (fun i hi => ?_)⟩
            · have := World.block_lt_of_cell? _ _ c0
              simpa [add_at] using this
            · rw [hl2] at hi
              obtain ⟨v0, v1, v2, v3, c0, c1, c2, c3, hs⟩ := (hX i hi).2
              simp only [add_at] at c0 c1 c2 c3
              refine ⟨v0, v1, v2, v3, c0, ?_, ?_, ?_, by simpa using hs⟩
              · rw [Nat.add_assoc]; exact c1
              · rw [Nat.add_assoc]; exact c2
              · rw [Nat.add_assoc]; exact c3
        · rw [okI, okIs_iff]
          refine ⟨b1, hss, fun y hy => ?_⟩
          obtain ⟨i, hi, rfl⟩ := List.mem_map.1 hy
          exact (hX i (by simpa using hi)).1
end
end Go.Proofs.YtbghemndcndhpaaDoor
