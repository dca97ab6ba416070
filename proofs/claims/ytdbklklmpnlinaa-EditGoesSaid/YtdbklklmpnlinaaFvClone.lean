/- slices.Clone of a row that reads, of strings, words and numbers: a row of the call's own. Condition: rows of at most 2^38 elements. -/
import Derived.Test.YtdbklklmpnlinaaFvMade
import Derived.Test.YtdbklklmpnlinaaShelf
import Derived.Deep.AppendLies
import Derived.Laws.AppendOwnNone
namespace Go.Proofs.Ytdbklklmpnlinaa
open Go.RowKit Go.Maps

/-- What a clone gives. -/
def Cloned (w w' : World) (e : Ending) (t : TypeId) (xs : List Value) : Prop := ∃ v, e = .returned v ∧ OwnT w' w.heap.size t v xs ∧ Below w.heap.size w w'
theorem cloneStr_of (ao : Option Addr) (n c : Nat) (ks : List ByteArray) (w : World) (hr : Rd w (.slice ao n c) (ks.map Value.string)) (hn : n ≤ 274877906944) :
    Calls Try.prog 112 #[.slice ao n c] w fun e w' => Cloned w w' e 9 (ks.map Value.string) := by
  have hl := hr.len
  rw [List.length_map] at hl
  obtain ⟨hl1, hl2, hl3⟩ := hl
  rcases ao with _ | a
  · have hz : ks = [] := by
      cases ks with
      | nil => rfl
      | cons x r =>
        obtain ⟨ad, h, _⟩ := hr.src (by simp)
        cases h
    subst hz
    have hn0 : n = 0 := hl1.symm
    subst hn0
    refine (Try.slices_Clone_string_nil 0 c w).mono ?_
    rintro e w' ⟨rfl, rfl⟩
    exact ⟨_, rfl, World.ownsRow_nil _ _ _ _, Below.refl _ _⟩
  · rcases Nat.eq_zero_or_pos n with hz | hp
    · subst hz
      have : ks = [] := List.eq_nil_of_length_eq_zero hl1
      subst this
      refine (Try.slices_Clone_string_zero a c w).mono ?_
      rintro e w' ⟨v, rfl, h1, _, h2⟩
      exact ⟨_, rfl, h1, h2⟩
    · obtain ⟨g, o, ha, hc⟩ := rd_at hr ByteArray.empty 0 hp
      injection ha with ha
      subst ha
      subst hl1
      refine (Try.slices_Clone_string g o ks.length c ks w (Nat.le_refl _) (by omega) hc).mono ?_
      rintro e w' ⟨v, rfl, h1, _, h2⟩
      rw [List.take_length] at h1
      exact ⟨_, rfl, by unfold OwnT; rw [List.length_map]; exact h1, h2⟩
theorem cloneInt_of (ao : Option Addr) (n c : Nat) (zs : List Int) (w : World) (hr : Rd w (.slice ao n c) (zs.map (Value.int .i64))) (hn : n ≤ 274877906944) :
    Calls Try.prog 114 #[.slice ao n c] w fun e w' => Cloned w w' e 3 (zs.map (Value.int .i64)) := by
  have hl := hr.len
  rw [List.length_map] at hl
  obtain ⟨hl1, hl2, hl3⟩ := hl
  rcases ao with _ | a
  · have hz : zs = [] := by
      cases zs with
      | nil => rfl
      | cons x r =>
        obtain ⟨ad, h, _⟩ := hr.src (by simp)
        cases h
    subst hz
    have hn0 : n = 0 := hl1.symm
    subst hn0
    refine (Try.slices_Clone_int_nil 0 c w).mono ?_
    rintro e w' ⟨rfl, rfl⟩
    exact ⟨_, rfl, World.ownsRow_nil _ _ _ _, Below.refl _ _⟩
  · rcases Nat.eq_zero_or_pos n with hz | hp
    · subst hz
      have : zs = [] := List.eq_nil_of_length_eq_zero hl1
      subst this
      refine (Try.slices_Clone_int_zero a c w).mono ?_
      rintro e w' ⟨v, rfl, h1, _, h2⟩
      exact ⟨_, rfl, h1, h2⟩
    · obtain ⟨g, o, ha, hc⟩ := rd_at hr 0 0 hp
      injection ha with ha
      subst ha
      subst hl1
      refine (Try.slices_Clone_int g o zs.length c zs w (Nat.le_refl _) (by omega) hc).mono ?_
      rintro e w' ⟨v, rfl, h1, _, h2⟩
      rw [List.take_length] at h1
      exact ⟨_, rfl, by unfold OwnT; rw [List.length_map]; exact h1, h2⟩
theorem fvInfoU64 : (Try.prog.info? 30).map (fun i => (i.zero, i.size, i.bytes)) = some (some (.int .u64 0), 1, 8) := by kernel_rfl
theorem cloneU64_zero (a : Addr) (c : Nat) (w : World) :
    Calls Try.prog 113 #[.slice (some a) 0 c] w fun e w' => Cloned w w' e 30 [] := by
  obtain ⟨i0, hi, hz0, hz1, hz2⟩ := info_parts fvInfoU64
  have q22 : ∀ (w : World) (a : Option Addr) (n c n' c' : Nat), (binOp .eql 38 (.slice a n c) (.slice none n' c')).run Try.prog w = .ok (.bool a.isNone) w := fun w a n c n' c' => Lib.run_eql_slice_nil w _ _ a n c n' c' Try.underlying38
  have u22 : ∀ w, Sem.run Try.prog (underlying 38) w = .ok (TypeDesc.slice 30) w := run_underlying Try.underlying38
  go_enter Try.func113, Try.ntmps113
  go_wp2_with (at_builtin; refine wpList_append_own _ rfl _ _ 38 rfl w.heap.size 30 i0 (.int .u64 0) 1 8 Try.underlying38 hi hz0 hz1 hz2 rfl (by decide) _ _ _ rfl (World.ownsRow_made w #[] 0 (Nat.le_refl _) (Nat.zero_le _) rfl) a 0 c [] rfl rfl (by intro j u hj; simp at hj) (by intro u hu; cases hu) (by unfold maxLen; omega) (by omega) (by simp) ?_)
  intro v' w1 hown hgrow hnil
  go_wp2
  go_ret
  refine ⟨v', rfl, by simpa [OwnT] using hown, ?_⟩
  exact ((Below.refl _ w).alloc (Nat.le_refl _) _).grown hgrow (by simp) (by intro k hk; simp [Value.ownBlock] at hk; omega)
theorem cloneU64_of (ao : Option Addr) (n c : Nat) (us : List Nat) (w : World) (hr : Rd w (.slice ao n c) (us.map uv)) (hn : n ≤ 274877906944) :
    Calls Try.prog 113 #[.slice ao n c] w fun e w' => Cloned w w' e 30 (us.map uv) := by
  have hl := hr.len
  rw [List.length_map] at hl
  obtain ⟨hl1, hl2, hl3⟩ := hl
  rcases ao with _ | a
  · have hz : us = [] := by
      cases us with
      | nil => rfl
      | cons x r =>
        obtain ⟨ad, h, _⟩ := hr.src (by simp)
        cases h
    subst hz
    have hn0 : n = 0 := hl1.symm
    subst hn0
    refine (Try.slices_Clone_nil_f113 0 c w).mono ?_
    rintro e w' ⟨rfl, rfl⟩
    exact ⟨_, rfl, World.ownsRow_nil _ _ _ _, Below.refl _ _⟩
  · rcases Nat.eq_zero_or_pos n with hz | hp
    · subst hz
      have : us = [] := List.eq_nil_of_length_eq_zero hl1
      subst this
      exact cloneU64_zero a c w
    · obtain ⟨g, o, ha, hc⟩ := rd_at hr 0 0 hp
      injection ha with ha
      subst ha
      obtain ⟨i0, hi0, hz0, hz1, hz3⟩ := info_parts fvInfoU64
      refine (Try.slices_Clone_f113 i0 (.int .u64 0) 1 8 hi0 hz0 hz1 hz3 rfl (by decide) (fun w => by kernel_rfl) g o n c (us.map uv) w (by rw [List.length_map]; omega) (by unfold maxLen; omega) (by omega) (fun j u hj => ?_) (fun u hu => by obtain ⟨_, _, rfl⟩ := List.mem_map.1 hu; rfl)).mono ?_
      · have hj' : j < n := by
          have := (List.getElem?_eq_some_iff.1 hj).1
          rw [List.length_map] at this
          omega
        rw [hc j hj']
        rw [List.getElem?_map] at hj
        rw [List.getD_eq_getElem?_getD]
        cases hu : us[j]? with
        | none => rw [hu] at hj; cases hj
        | some x => rw [hu] at hj; exact hj
      · rintro e w' ⟨v, rfl, h1, _, h2⟩
        exact ⟨_, rfl, by unfold OwnT; rw [List.length_map, hl1]; exact h1, h2⟩
end Go.Proofs.Ytdbklklmpnlinaa
