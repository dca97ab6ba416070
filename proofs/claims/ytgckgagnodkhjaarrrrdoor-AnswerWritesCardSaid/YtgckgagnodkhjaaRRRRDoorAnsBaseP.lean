/- What the rows of answer share: the table of names out of the row's condition; how an answer is read. No condition. -/
import Derived.Test.YtgckgagnodkhjaaRRRRDoorAnsTellsW
import Derived.Test.YtgckgagnodkhjaaRRRRDoorPairsRead17
import Derived.Test.YtgckgagnodkhjaaRRRRDoorRows
import Derived.SliceStrings
import Derived.ChangeSlices
import Derived.ProofKit
import Derived.Deep.Slices
import Derived.Deep.Fields
import Derived.ChangeMaps5
import Derived.Carry
import Derived.OpenShut
import Derived.LaidMore
import Derived.Lay
import Derived.Stop.Joined
import Derived.Stop.LaidErr
import Derived.Lib.LaidTab
namespace Go.Proofs.YtgckgagnodkhjaaRRRRDoor
open Go.ChangeShapes Go.WideShapes Go.ChangeAt Go.RowKit Go.ChangeMaps Go.Deep

theorem Tryd.ownS : ownKnob Tryd.prog.godebug = none := by kernel_rfl
theorem Tryd.laidOut : laidOutB Tryd.prog = true := by kernel_rfl
theorem Tryd.cellsAns : Tryd.prog.cellsOf 25 = 4 := by kernel_rfl
theorem Tryd.cellsAI : Tryd.prog.cellsOf 3 = 1 := by kernel_rfl
theorem Tryd.cellsAU : Tryd.prog.cellsOf 22 = 1 := by kernel_rfl
theorem Tryd.cellsAS : Tryd.prog.cellsOf 9 = 1 := by kernel_rfl
theorem Tryd.cellsAP : Tryd.prog.cellsOf 23 = 1 := by kernel_rfl

/-- The listed table. -/
def laid17 : List (String × DataW Unit) := [("bower/answer.names", Rows.laid_bower_answer_names)]

/-- An array of texts that reads as the table holds the table's texts. -/
theorem cells_of_texts {H : Type} {enc : TypeId × Value → H} {P : Program} {w : World} {base : Nat} {sp : Nat → Bool} {held : Bool} {fuel : Nat} {t e : TypeId} {n : Nat} {cs : List Value} {zs : List (List UInt8)} {p : List MemPlace}
    (ht : P.underlying t = some (.array n e)) (he : P.underlying e = some .string) (hce : P.cellsOf e = 1) (hct : P.cellsOf t = n)
    (h : DataW.trod enc P w base sp held fuel t cs = some (.agg (zs.map fun z => .lit (.string z)), p)) : cs = zs.map fun z => Value.string ⟨z.toArray⟩ := by
  cases fuel with
  | zero => simp [DataW.trod] at h
  | succ fuel =>
    simp only [DataW.trod, ht, hce, hct, Nat.mul_one] at h
    split at h
    · rename_i hl
      obtain ⟨xs, hm, hx⟩ := Option.map_eq_some_iff.1 h
      have hxs : xs.map (·.1) = zs.map fun z => (DataW.lit (.string z) : DataW H) := by
        have := congrArg Prod.fst hx
        simpa using this
      have hxl : xs.length = n := by simpa using Lib.mapM_length hm
      have hzl : zs.length = n := by
        have := congrArg List.length hxs
        simp at this
        omega
      apply List.ext_getElem?
      intro i
      by_cases hi : i < n
      · obtain ⟨b, hb, hf⟩ := Lib.mapM_at hm i i (by simp [hi])
        obtain ⟨s, hc, rfl, _⟩ := DataW.trod_string he hf
        have h1 : cs[i]? = some (.string s) := by
          have := congrArg (·[0]?) hc
          simpa [List.getElem?_take, List.getElem?_drop] using this
        have h2 : (xs.map (·.1))[i]? = some (DataW.lit (.string s.data.toList) : DataW H) := by simp [hb]
        rw [hxs] at h2
        simp only [List.getElem?_map, Option.map_eq_some_iff, DataW.lit.injEq, Lit.string.injEq] at h2
        obtain ⟨z', hz', rfl⟩ := h2
        simp [h1, hz']
      · rw [List.getElem?_eq_none (by omega), List.getElem?_eq_none (by simp; omega)]
    · cases h

def namesL : List (List UInt8) := [[], [100, 111, 110, 101], [110, 111, 110, 101], [116, 104, 101, 114, 101], [111, 116, 104, 101, 114], [98, 97, 100], [115, 104, 111, 114, 116]]

/-- Out of the row's condition: the table of names. -/
theorem names_of_laid17 {W : World} (h : laidMetH Tryd.prog laid17 W) : NamesAt17 W := by
  rw [MakeChecks.laidMetH_plain _ _ _ (by kernel_rfl)] at h
  have hgt : Tryd.prog.globalNamed "bower/answer.names" = some 0 := by kernel_rfl
  obtain ⟨ps, ⟨g', t', cs, fuel, p, q, hg', ht', hvar, hd, _, _⟩, _⟩ := h
  obtain rfl := Option.some.inj (hgt.symm.trans hg')
  have hty : (Tryd.prog.globals[0]?).map (·.type) = some 52 := by kernel_rfl
  obtain rfl := Option.some.inj (hty.symm.trans ht')
  have hcs := cells_of_texts (zs := namesL) Tryd.underlying52 Tryd.underlying9 (by kernel_rfl) (by kernel_rfl) hd
  have hc : ∀ (i : Nat) v, (namesL.map fun z => Value.string ⟨z.toArray⟩)[i]? = some v → W.cell? ⟨0, i, none⟩ = some v := fun i v hv => (World.var?_cell hgt hvar i).trans (by rw [← Array.getElem?_toList, hcs]; exact hv)
  refine ⟨⟨hc 0 _ rfl, hc 1 _ rfl, hc 2 _ rfl, hc 3 _ rfl, hc 4 _ rfl, hc 5 _ rfl, hc 6 _ rfl⟩, World.block_lt_of_cell? W _ (hc 0 _ rfl)⟩

section
variable {H : Type} {enc : TypeId × Value → H} {w : World}

theorem slice_form17 {fuel : Nat} {t e : TypeId} {v : Value} {x : DataW H × List MemPlace} (ht : Tryd.prog.underlying t = some (.slice e)) (h : DataW.trod enc Tryd.prog w 0 (fun _ => true) true fuel t [v] = some x) : ∃ ao n c, v = .slice ao n c := by
  rcases DataW.trod_slice ht h with ⟨e3, _⟩ | ⟨ad, len, cap, elems, rest, m, hnm, e3, _⟩
  · simp at e3; exact ⟨_, _, _, e3⟩
  · simp at e3; exact ⟨_, _, _, e3⟩

/-- The cells of an answer. -/
theorem ans_cells {fuel : Nat} {l : List Value} {x : DataW H × List MemPlace} (h : DataW.trod enc Tryd.prog w 0 (fun _ => true) true fuel 25 l = some x) :
    ∃ (k : Int) (key : ByteArray) (v : Nat) (ao : Option Addr) (n c : Nat) (ps : List (ByteArray × Int)), l = [.int .i64 k, .string key, .int .u64 (v : Nat), .slice ao n c] ∧ v < 18446744073709551616 ∧ RdP w (.slice ao n c) ps ∧ ∀ p ∈ ps, p.1.size ≤ 9223372036854775807 ∧ 0 ≤ p.2 ∧ p.2 < 18446744073709551616 := by
  obtain ⟨xs, n, _, _, hlen, _, hf⟩ := DataW.trod_struct Tryd.underlying25 h
  rw [Tryd.cellsAns] at hlen
  match l, hlen with
  | [a, b, c, d], _ =>
    have get : ∀ {y : Option (DataW H × List MemPlace)} {t : TypeId} {v : Value}, DataW.trod enc Tryd.prog w 0 (fun _ => true) true n t [v] = y → (y = none → False) → ∃ z, DataW.trod enc Tryd.prog w 0 (fun _ => true) true n t [v] = some z := by
      intro y t v hy hn
      cases hy' : DataW.trod enc Tryd.prog w 0 (fun _ => true) true n t [v] with
      | none => exact (hn (hy.symm.trans hy')).elim
      | some z => exact ⟨z, rfl⟩
    have hxl : xs.length = 4 := by assumption
    have hx : ∀ i, i < 4 → xs[i]? = none → False := fun i hi e => by
      have := List.getElem?_eq_none_iff.1 e
      omega
    obtain ⟨z0, h0⟩ := get (by simpa [Tryd.cellsAI] using hf 0 _ rfl) (hx 0 (by omega))
    obtain ⟨z1, h1⟩ := get (by simpa [Tryd.cellsAS] using hf 1 _ rfl) (hx 1 (by omega))
    obtain ⟨z2, h2⟩ := get (by simpa [Tryd.cellsAU] using hf 2 _ rfl) (hx 2 (by omega))
    obtain ⟨z3, h3⟩ := get (by simpa [Tryd.cellsAP] using hf 3 _ rfl) (hx 3 (by omega))
    obtain ⟨n0, e0, _, w0⟩ := DataW.trod_int Tryd.underlying3 h0
    obtain ⟨s1, e1, _, w1⟩ := DataW.trod_string Tryd.underlying9 h1
    obtain ⟨n2, e2, _, w2⟩ := DataW.trod_int Tryd.underlying22 h2
    obtain ⟨ao, len, cap, rfl⟩ := slice_form17 Tryd.underlying23 h3
    obtain ⟨ps, hr, hz⟩ := pairs_read h3
    have b2 := u64_bounds w2
    simp at e0 e1 e2
    subst e0 e1 e2
    exact ⟨n0, s1, n2.toNat, ao, len, cap, ps, by rw [Int.toNat_of_nonneg b2.1], by omega, hr, hz⟩
end
end Go.Proofs.YtgckgagnodkhjaaRRRRDoor
