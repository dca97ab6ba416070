/- (box.Box).List: a copy of what a box has, in new memory. Condition: at most 2^38 boxes. -/
import Derived.Test.YtbghemndcndhpaaDoorBoxList
namespace Go.Proofs.YtbghemndcndhpaaDoor
open Go.RowKit

/-- What List tells of a box. -/
def ListGives (S : Nat → Prop) (w w' : World) (e : Ending) (b : Bx) : Prop :=
  (∃ l g xs, b = .list l ∧ e = .returned (.tuple #[.slice (some ⟨g, 0, none⟩) l.length l.length, .bool true]) ∧ w.heap.size ≤ g ∧ Whole w' 29 g xs ∧ xs.length = l.length ∧ (∀ i (h : i < l.length) (h2 : i < xs.length), BoxIs S w' l[i] xs[i]) ∧ Below w.heap.size w w')
  ∨ ((∀ l, b ≠ .list l) ∧ e = .returned (.tuple #[.slice none 0 0, .bool false]) ∧ Below w.heap.size w w')

theorem BoxL.read {S : Nat → Prop} {w : World} {g : Nat} {l : List Bx} (h : BoxL S w g 0 l) (hl : l.length ≤ 9223372036854775807) : ∃ xs, Rd w (.slice (some ⟨g, 0, none⟩) l.length l.length) xs ∧ xs.length = l.length ∧ ∀ i (h : i < l.length) (h2 : i < xs.length), BoxIs S w l[i] xs[i] := by
  have hx : ∃ xs : List Value, xs.length = l.length ∧ ∀ i (h : i < l.length) (h2 : i < xs.length), w.cell? ⟨g, 0 + i, none⟩ = some xs[i] ∧ BoxIs S w l[i] xs[i] := by
    refine ⟨List.ofFn (fun i : Fin l.length => (h.at_ i.1 i.2).choose), by simp, fun i hi h2 => ?_⟩
    have := (h.at_ i hi).choose_spec
    simpa only [List.getElem_ofFn] using this
  obtain ⟨xs, hlen, hc⟩ := hx
  refine ⟨xs, ⟨_, l.length, by rw [hlen], by omega, hl, fun _ => ⟨g, 0, rfl, fun j hj => ?_⟩⟩, hlen, fun i hi h2 => (hc i hi h2).2⟩
  exact (hc j (by omega) hj).1

set_option maxHeartbeats 2000000 in
theorem listOf_any (S : Nat → Prop) (b : Bx) (v : Value) (w : World) (h : BoxIs S w b v) (hn : ∀ l, b = .list l → l.length ≤ 274877906944) : Calls Tryd.prog 13 #[.agg #[v]] w fun e w' => ListGives S w w' e b := by
  have HB := Lib.hid (fun x => alloc_below w (.cells #[x] 29))
  cases b with
  | list l =>
    rw [BoxIs] at h
    obtain ⟨g, h, hg, hl⟩ := h
    have hll := hn l rfl
    obtain ⟨xs, hrd, hlen, hbx⟩ := hl.read (by omega)
    subst h
    have hb2 : Below w.heap.size w ((w.alloc (.cells #[.iface 58 (.agg #[.slice (some ⟨g, 0, none⟩) l.length l.length, .int .i64 (maxD l + 1 : Nat)])] 29)).alloc (.cells #[.slice (some ⟨g, 0, none⟩) l.length l.length, .int .i64 (maxD l + 1 : Nat)] 58)) := ((Below.refl _ _).alloc (Nat.le_refl _) _).alloc (by simp) _
    have hone : ∀ u ∈ xs, u.oneCell' = true := fun u hu => by
      obtain ⟨j, hj, rfl⟩ := List.getElem_of_mem hu
      exact box_one (hbx j (by omega) hj)
    have HCP := Lib.hid (copied_any _ _ _ xs _ (hrd.keep hb2) hone hll)
    have HL := Lib.hid (show _ ∧ _ from ⟨hlen, hbx⟩)
    have HB2 := Lib.hid hb2
    obtain ⟨n, hln⟩ : ∃ n, n = l.length := ⟨_, rfl⟩
    have HN := Lib.hid hln
    obtain ⟨d, hd⟩ : ∃ d, d = maxD l + 1 := ⟨_, rfl⟩
    rw [← hln, ← hd] at HCP HB2 ⊢
    clear hg hl hrd hbx hlen hone hb2 hll hn hd hln
    go_enter Tryd.func13, Tryd.ntmps13
    go_wp2_with fail
    refine HCP.out.mono ?_
    rintro e w2 ⟨v2, rfl, g2, rfl, hg2, hW2, hB2⟩
    have HW2 := Lib.hid hW2
    have HB3 := Lib.hid (HB2.out.trans (hB2.mono HB2.out.size))
    have HG2 := Lib.hid (Nat.le_trans HB2.out.size hg2)
    clear hB2 hW2 hg2
    go_wp2
    go_ret2
    exact Or.inl ⟨l, g2, xs, rfl, (by rw [HL.out.1, HN.out]; rfl), HG2.out, HW2.out, HL.out.1, fun i hi h2 => (HL.out.2 i hi h2).below HB3.out, HB3.out⟩
  | nothing =>
    rw [BoxIs] at h
    subst h
    clear hn
    go_enter Tryd.func13, Tryd.ntmps13
    go_wp2
    go_ret2
    exact Or.inr ⟨(fun l h => by cases h), rfl, (HB.out _).alloc (by simp) _⟩
  | truth b =>
    rw [BoxIs] at h
    subst h
    clear hn
    go_enter Tryd.func13, Tryd.ntmps13
    go_wp2
    go_ret2
    exact Or.inr ⟨(fun l h => by cases h), rfl, (HB.out _).alloc (by simp) _⟩
  | number n =>
    rw [BoxIs] at h
    subst h
    clear hn
    go_enter Tryd.func13, Tryd.ntmps13
    go_wp2
    go_ret2
    exact Or.inr ⟨(fun l h => by cases h), rfl, (HB.out _).alloc (by simp) _⟩
  | text s =>
    rw [BoxIs] at h
    subst h
    clear hn
    go_enter Tryd.func13, Tryd.ntmps13
    go_wp2
    go_ret2
    exact Or.inr ⟨(fun l h => by cases h), rfl, (HB.out _).alloc (by simp) _⟩
end Go.Proofs.YtbghemndcndhpaaDoor
