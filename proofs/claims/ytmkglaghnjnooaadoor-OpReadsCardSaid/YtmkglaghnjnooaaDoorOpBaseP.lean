/- What the rows of op share: the table of names out of the row's condition; how an operation, and a list of them, is read. No condition. -/
import Derived.Test.YtmkglaghnjnooaaDoorOpList
import Derived.Test.YtmkglaghnjnooaaDoorRows
import Derived.SliceStrings
import Derived.ChangeSlices
import Derived.ProofKit
import Derived.Deep.Slices
import Derived.Deep.Fields
import Derived.ChangeMaps5
import Derived.Carry
import Derived.OpenShut
import Derived.LaidMore
import Derived.Lay
import Derived.Stop.Joined
import Derived.Stop.LaidErr
import Derived.Lib.LaidTab
namespace Go.Proofs.YtmkglaghnjnooaaDoor
open Go.ChangeShapes Go.WideShapes Go.ChangeAt Go.RowKit Go.ChangeMaps Go.Deep

theorem Tryd.ownS : ownKnob Tryd.prog.godebug = none := by kernel_rfl
theorem Tryd.laidOut : laidOutB Tryd.prog = true := by kernel_rfl
theorem Tryd.cellsOp : Tryd.prog.cellsOf 24 = 5 := by kernel_rfl
theorem Tryd.cellsI : Tryd.prog.cellsOf 3 = 1 := by kernel_rfl
theorem Tryd.cellsU : Tryd.prog.cellsOf 22 = 1 := by kernel_rfl
theorem Tryd.cellsS : Tryd.prog.cellsOf 9 = 1 := by kernel_rfl

/-- The listed table. -/
def laid1 : List (String × DataW Unit) := [("bower/op.names", Rows.laid_bower_op_names)]

/-- An array of texts that reads as the table holds the table's texts. -/
theorem cells_of_texts {H : Type} {enc : TypeId × Value → H} {P : Program} {w : World} {base : Nat} {sp : Nat → Bool} {held : Bool} {fuel : Nat} {t e : TypeId} {n : Nat} {cs : List Value} {zs : List (List UInt8)} {p : List MemPlace}
    (ht : P.underlying t = some (.array n e)) (he : P.underlying e = some .string) (hce : P.cellsOf e = 1) (hct : P.cellsOf t = n)
    (h : DataW.trod enc P w base sp held fuel t cs = some (.agg (zs.map fun z => .lit (.string z)), p)) : cs = zs.map fun z => Value.string ⟨z.toArray⟩ := by
  cases fuel with
  | zero => simp [DataW.trod] at h
  | succ fuel =>
    simp only [DataW.trod, ht, hce, hct, Nat.mul_one] at h
    split at h
    · rename_i hl
      obtain ⟨xs, hm, hx⟩ := Option.map_eq_some_iff.1 h
      have hxs : xs.map (·.1) = zs.map fun z => (DataW.lit (.string z) : DataW H) := by
        have := congrArg Prod.fst hx
        simpa using this
      have hxl : xs.length = n := by simpa using Lib.mapM_length hm
      have hzl : zs.length = n := by
        have := congrArg List.length hxs
        simp at this
        omega
      apply List.ext_getElem?
      intro i
      by_cases hi : i < n
      · obtain ⟨b, hb, hf⟩ := Lib.mapM_at hm i i (by simp [hi])
        obtain ⟨s, hc, rfl, _⟩ := DataW.trod_string he hf
        have h1 : cs[i]? = some (.string s) := by
          have := congrArg (·[0]?) hc
          simpa [List.getElem?_take, List.getElem?_drop] using this
        have h2 : (xs.map (·.1))[i]? = some (DataW.lit (.string s.data.toList) : DataW H) := by simp [hb]
        rw [hxs] at h2
        simp only [List.getElem?_map, Option.map_eq_some_iff, DataW.lit.injEq, Lit.string.injEq] at h2
        obtain ⟨z', hz', rfl⟩ := h2
        simp [h1, hz']
      · rw [List.getElem?_eq_none (by omega), List.getElem?_eq_none (by simp; omega)]
    · cases h

def namesL : List (List UInt8) := [[], [103, 101, 116], [105, 110, 115, 101, 114, 116], [112, 117, 116], [100, 101, 108, 101, 116, 101], [100, 114, 111, 112], [109, 105, 110], [109, 97, 120], [110, 101, 120, 116], [112, 114, 101, 118], [115, 99, 97, 110]]

/-- Out of the row's condition: the table of names. -/
theorem names_of_laid {W : World} (h : laidMetH Tryd.prog laid1 W) : NamesAt W := by
  rw [MakeChecks.laidMetH_plain _ _ _ (by kernel_rfl)] at h
  have hgt : Tryd.prog.globalNamed "bower/op.names" = some 0 := by kernel_rfl
  obtain ⟨ps, ⟨g', t', cs, fuel, p, q, hg', ht', hvar, hd, _, _⟩, _⟩ := h
  obtain rfl := Option.some.inj (hgt.symm.trans hg')
  have hty : (Tryd.prog.globals[0]?).map (·.type) = some 62 := by kernel_rfl
  obtain rfl := Option.some.inj (hty.symm.trans ht')
  have hcs := cells_of_texts (zs := namesL) Tryd.underlying62 Tryd.underlying9 (by kernel_rfl) (by kernel_rfl) hd
  have hc : ∀ (i : Nat) v, (namesL.map fun z => Value.string ⟨z.toArray⟩)[i]? = some v → W.cell? ⟨0, i, none⟩ = some v := fun i v hv => (World.var?_cell hgt hvar i).trans (by rw [← Array.getElem?_toList, hcs]; exact hv)
  refine ⟨⟨hc 0 _ rfl, hc 1 _ rfl, hc 2 _ rfl, hc 3 _ rfl, hc 4 _ rfl, hc 5 _ rfl, hc 6 _ rfl, hc 7 _ rfl, hc 8 _ rfl, hc 9 _ rfl, hc 10 _ rfl⟩, World.block_lt_of_cell? W _ (hc 0 _ rfl)⟩

theorem i64_bounds {n : Int} (h : (Lit.int .i64 n).wf = true) : -9223372036854775808 ≤ n ∧ n ≤ 9223372036854775807 := by
  have h1 : IntKind.i64.min = -9223372036854775808 := rfl
  have h2 : IntKind.i64.max = 9223372036854775807 := rfl
  simp only [Lit.wf, Bool.and_eq_true, decide_eq_true_eq] at h
  omega
theorem u64_bounds {n : Int} (h : (Lit.int .u64 n).wf = true) : 0 ≤ n ∧ n < 18446744073709551616 := by
  have h1 : IntKind.u64.min = 0 := rfl
  have h2 : IntKind.u64.max = 18446744073709551615 := rfl
  simp only [Lit.wf, Bool.and_eq_true, decide_eq_true_eq] at h
  omega

section
variable {H : Type} {enc : TypeId × Value → H} {w : World} {base : Nat} {spare : Nat → Bool} {held : Bool}

/-- The cells of one item. -/
theorem op_cells {fuel : Nat} {cs : List Value} {x : DataW H × List MemPlace} (h : DataW.trod enc Tryd.prog w base spare held fuel 24 cs = some x) : ∃ it : OpV, it.ok ∧ cs = it.vals := by
  obtain ⟨xs, n, _, _, hlen, _, hf⟩ := DataW.trod_struct Tryd.underlying24 h
  rw [Tryd.cellsOp] at hlen
  match cs, hlen with
  | [a, b, c, d, e], _ =>
    have get : ∀ {y : Option (DataW H × List MemPlace)} {t : TypeId} {v : Value}, DataW.trod enc Tryd.prog w base spare held n t [v] = y → (y = none → False) → ∃ z, DataW.trod enc Tryd.prog w base spare held n t [v] = some z := by
      intro y t v hy hn
      cases hy' : DataW.trod enc Tryd.prog w base spare held n t [v] with
      | none => exact (hn (hy.symm.trans hy')).elim
      | some z => exact ⟨z, rfl⟩
    have hxl : xs.length = 5 := by assumption
    have hx : ∀ i, i < 5 → xs[i]? = none → False := fun i hi e => by
      have := List.getElem?_eq_none_iff.1 e
      omega
    obtain ⟨z0, h0⟩ := get (by simpa [Tryd.cellsI] using hf 0 _ rfl) (hx 0 (by omega))
    obtain ⟨z1, h1⟩ := get (by simpa [Tryd.cellsS] using hf 1 _ rfl) (hx 1 (by omega))
    obtain ⟨z2, h2⟩ := get (by simpa [Tryd.cellsS] using hf 2 _ rfl) (hx 2 (by omega))
    obtain ⟨z3, h3⟩ := get (by simpa [Tryd.cellsU] using hf 3 _ rfl) (hx 3 (by omega))
    obtain ⟨z4, h4⟩ := get (by simpa [Tryd.cellsI] using hf 4 _ rfl) (hx 4 (by omega))
    obtain ⟨n0, e0, _, _⟩ := DataW.trod_int Tryd.underlying3 h0
    obtain ⟨s1, e1, _, ws1⟩ := DataW.trod_string Tryd.underlying9 h1
    obtain ⟨s2, e2, _, ws2⟩ := DataW.trod_string Tryd.underlying9 h2
    obtain ⟨n3, e3, _, w3⟩ := DataW.trod_int Tryd.underlying22 h3
    obtain ⟨n4, e4, _, _⟩ := DataW.trod_int Tryd.underlying3 h4
    have b3 := u64_bounds w3
    simp at e0 e1 e2 e3 e4
    subst e0 e1 e2 e3 e4
    refine ⟨⟨n0, s1, s2, n3.toNat, n4⟩, ⟨by show n3.toNat < _; omega, by simpa [maxLen] using ws1, by simpa [maxLen] using ws2⟩, ?_⟩
    simp [OpV.vals, Int.toNat_of_nonneg b3.1]

instance : Inhabited OpV := ⟨⟨0, ByteArray.empty, ByteArray.empty, 0, 0⟩⟩

/-- A list of items. -/
theorem ops_read {fuel : Nat} {ao : Option Addr} {len cap : Nat} {x : DataW H × List MemPlace} (h : DataW.trod enc Tryd.prog w 0 (fun _ => true) true fuel 32 [.slice ao len cap] = some x) :
    len ≤ 9223372036854775807 ∧ ∃ X : Nat → OpV, Ops w w.heap.size ao len X ∧ ∀ i, i < len → (X i).ok := by
  rcases open_slice Tryd.underlying32 h with ⟨hcs, _⟩ | ⟨a, len', cap', m, n, D, Pl, hcs, _, hl, hm, hmm, _, hx⟩
  · simp at hcs
    obtain ⟨rfl, rfl, rfl⟩ := hcs
    exact ⟨by omega, fun _ => default, fun i hi => absurd hi (Nat.not_lt_zero _), fun i hi => absurd hi (Nat.not_lt_zero _)⟩
  · simp at hcs
    obtain ⟨rfl, rfl, rfl⟩ := hcs
    simp only [if_true] at hmm
    rw [Tryd.cellsOp] at hx
    obtain ⟨X, hX⟩ := choose_lt (α := OpV) (n := len) (p := fun i it => it.ok ∧ ∀ j v, it.vals[j]? = some v → w.cell? (a.add (i * 5 + j)) = some v) (fun i hi => by
      obtain ⟨cs', h1, h2⟩ := hx i (by omega)
      obtain ⟨it, hok, rfl⟩ := op_cells h2
      obtain ⟨_, hlen, hc⟩ := World.cells?_some h1
      refine ⟨it, hok, fun j v hv => ?_⟩
      have hj : j < 5 := by have := (List.getElem?_eq_some_iff.1 hv).1; rw [hlen] at this; exact this
      rw [← add_add, hc j hj]
      exact hv)
    refine ⟨by unfold maxLen at hm; omega, X, fun i hi => ?_, fun i hi => (hX i hi).1⟩
    obtain ⟨b, off, spot⟩ := a
    have h0 := (hX i hi).2 0 _ rfl
    have hz := (hX 0 (by omega)).2 0 _ rfl
    have hspot : spot = none := by simpa [Addr.add] using World.cell?_spot hz
    clear hz
    subst hspot
    refine ⟨b, off, rfl, ?_, fun j v hv => ?_⟩
    · rw [add_plain] at h0; exact World.block_lt_of_cell? w _ h0
    · have := (hX i hi).2 j v hv
      rw [add_plain] at this
      rw [Nat.add_assoc]
      exact this
end
end Go.Proofs.YtmkglaghnjnooaaDoor
