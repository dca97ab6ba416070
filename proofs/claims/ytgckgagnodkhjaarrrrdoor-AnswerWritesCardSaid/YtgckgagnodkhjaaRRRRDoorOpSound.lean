/- bowerref16.uses, Sound; op.Reads, bowerref16.Reads. Condition: texts that fit. -/
import Derived.Test.YtgckgagnodkhjaaRRRRDoorOpCheck
import Derived.BigQuiet
namespace Go.Proofs.YtgckgagnodkhjaaRRRRDoor
open Go.RowKit

theorem hasB_no {s : ByteArray} {c : UInt8} (h : ∀ k (hk : k < s.size), s[k] ≠ c) : hasB s c = false := by
  unfold hasB
  rw [List.any_eq_false]
  intro x hx
  obtain ⟨i, hi, rfl⟩ := List.mem_iff_getElem.1 hx
  have hi' : i < s.size := by simpa using hi
  simpa using (show s.data[i] ≠ c from h i hi')
theorem hasB_yes {s : ByteArray} {c : UInt8} {k : Nat} (hk : k < s.size) (h : s[k] = c) : hasB s c = true := by
  unfold hasB
  rw [List.any_eq_true]
  exact ⟨s[k], by show s.data[k] ∈ s.data.toList; simp, by simpa using h⟩

theorem usS_size (k : Int) : (usS k).size ≤ 3 := by
  unfold usS
  repeat' split
  all_goals decide
theorem usS_parts (k : Int) : ((usS k).toList == []) = (!usI k) ∧ hasB (usS k) 107 = usK k ∧ hasB (usS k) 116 = usT k ∧ hasB (usS k) 118 = usV k ∧ hasB (usS k) 108 = usT k := by
  rcases kinds k with rfl | rfl | rfl | rfl | rfl | rfl | rfl | rfl | rfl | rfl | h
  case inr.inr.inr.inr.inr.inr.inr.inr.inr.inr =>
    have hp : usS k = ⟨#[]⟩ := by
      unfold usS
      rw [if_neg (by omega), if_neg (by omega), if_neg (by omega), if_neg (by omega)]
    have h1 : usI k = false := by unfold usI; rw [decide_eq_false_iff_not]; omega
    have h2 : usK k = false := by unfold usK; rw [decide_eq_false_iff_not]; omega
    have h3 : usT k = false := by unfold usT; rw [decide_eq_false_iff_not]; omega
    have h4 : usV k = false := by unfold usV; rw [decide_eq_false_iff_not]; omega
    rw [hp, h1, h2, h3, h4]
    refine ⟨?_, ?_, ?_, ?_, ?_⟩ <;> kernel_rfl
  all_goals (refine ⟨?_, ?_, ?_, ?_, ?_⟩ <;> kernel_rfl)

/-- Does an operation read alone? -/
def opReadsB (k : Int) (key tx : ByteArray) (lim : Int) : Bool := opSoundB k key tx lim && decide (k = 1 ∨ 6 ≤ k)
theorem opSound_kind {k : Int} {key tx : ByteArray} {lim : Int} (h : opSoundB k key tx lim = true) : 1 ≤ k ∧ k ≤ 10 := by
  unfold opSoundB at h
  rw [Bool.and_eq_true, Bool.and_eq_true, Bool.and_eq_true] at h
  have := h.1.1.1
  unfold usI at this
  rw [decide_eq_true_iff] at this
  exact this

end Go.Proofs.YtgckgagnodkhjaaRRRRDoor
