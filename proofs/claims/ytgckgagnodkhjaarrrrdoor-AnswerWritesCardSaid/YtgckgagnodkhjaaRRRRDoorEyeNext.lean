/- The eye's state; (*sip.Eye).next, Look, Left, Fault, Close, fail at an eye that is not nil. Conditions: none but that the eye's own two cells are not among the bytes that it reads. -/
import Derived.Test.YtgckgagnodkhjaaRRRRDoorRows
import Derived.WalkKit
import Derived.OneCell
import Derived.Lib.Hide
import Derived.Outline
namespace Go.Proofs.YtgckgagnodkhjaaRRRRDoor
open Go.RowKit

/-- A slice value that reads as the bytes bs, none of them in block eb. -/
def Bs (w : World) (eb : Nat) (v : Value) (bs : List UInt8) : Prop :=
  ∃ ao c, v = .slice ao bs.length c ∧ bs.length ≤ c ∧ c ≤ 9223372036854775807 ∧ (bs ≠ [] → ∃ g o, ao = some ⟨g, o, none⟩ ∧ g ≠ eb ∧ ∀ j (h : j < bs.length), w.cell? ⟨g, o + j, none⟩ = some (.int .u8 (bs[j].toNat : Nat)))

/-- The eye at block eb: bs is left, the fault is f. -/
def Eye (w : World) (eb : Nat) (bs : List UInt8) (f : Int) : Prop :=
  ∃ v, w.heap[eb]? = some (.cells #[v, .int .i64 f] 57 (0, 0)) ∧ Bs w eb v bs

/-- Reading: no block but the eye's own has turned. -/
structure Ew (eb : Nat) (w w' : World) : Prop where
  os : w'.os = w.os
  tape : w'.tape = w.tape
  output : w'.output = w.output
  size : w.heap.size ≤ w'.heap.size
  block : ∀ k, k < w.heap.size → k ≠ eb → w'.heap[k]? = w.heap[k]?

theorem Ew.refl (eb : Nat) (w : World) : Ew eb w w := ⟨rfl, rfl, rfl, Nat.le_refl _, fun _ _ _ => rfl⟩
theorem Ew.trans {eb : Nat} {a b c : World} (h : Ew eb a b) (k : Ew eb b c) : Ew eb a c :=
  ⟨k.os.trans h.os, k.tape.trans h.tape, k.output.trans h.output, Nat.le_trans h.size k.size, fun i hi h1 => (k.block i (Nat.lt_of_lt_of_le hi h.size) h1).trans (h.block i hi h1)⟩
theorem Ew.set (eb o : Nat) (u : Value) (w : World) : Ew eb w (w.setCell ⟨eb, o, none⟩ u) :=
  ⟨rfl, rfl, rfl, by simp [World.setCell], fun k _ h => Below.heap_setCell _ _ _ _ h⟩
theorem Ew.cell {eb : Nat} {w w' : World} (h : Ew eb w w') {p : Addr} (h0 : p.block < w.heap.size) (h1 : p.block ≠ eb) : w'.cell? p = w.cell? p := World.cell?_of_block (w := w) (h.block p.block h0 h1)
theorem Ew.alloc {eb : Nat} {a w : World} (h : Ew eb a w) (o : Obj) : Ew eb a (w.alloc o) :=
  h.trans ⟨rfl, rfl, rfl, by simp, fun k hk _ => Below.heap_alloc _ _ _ hk⟩

theorem Bs.nil (w : World) (eb : Nat) : Bs w eb (.slice none 0 0) [] := ⟨_, _, rfl, Nat.le_refl _, by omega, fun h => absurd rfl h⟩

theorem Bs.keep {w w' : World} {eb : Nat} {v : Value} {bs : List UInt8} (h : Bs w eb v bs) (hw : Ew eb w w') : Bs w' eb v bs := by
  obtain ⟨ao, c, h1, h2, h3, h4⟩ := h
  refine ⟨ao, c, h1, h2, h3, fun hne => ?_⟩
  obtain ⟨g, o, e, hg, hc⟩ := h4 hne
  refine ⟨g, o, e, hg, fun j hj => ?_⟩
  have hlt : g < w.heap.size := World.block_lt_of_cell? w _ (hc j hj)
  rw [hw.cell (p := ⟨g, o + j, none⟩) hlt hg]
  exact hc j hj

theorem two_cell0 {w : World} {b : Nat} {u v : Value} {t : TypeId} (h : w.heap[b]? = some (.cells #[u, v] t (0, 0))) : w.cell? ⟨b, 0, none⟩ = some u := by simp [World.cell?, h]
theorem two_cell1 {w : World} {b : Nat} {u v : Value} {t : TypeId} (h : w.heap[b]? = some (.cells #[u, v] t (0, 0))) : w.cell? ⟨b, 1, none⟩ = some v := by simp [World.cell?, h]
theorem two_free {w : World} {b i : Nat} {u v : Value} {t : TypeId} (h : w.heap[b]? = some (.cells #[u, v] t (0, 0))) : w.frozen? ⟨b, i, none⟩ = false := by simp [World.frozen?, h]
theorem two_set0 {w : World} {b : Nat} {u v x : Value} {t : TypeId} (h : w.heap[b]? = some (.cells #[u, v] t (0, 0))) : (w.setCell ⟨b, 0, none⟩ x).heap[b]? = some (.cells #[x, v] t (0, 0)) := by
  have hlt := lt_of_block h
  have h' : w.heap[b] = .cells #[u, v] t (0, 0) := by simpa [Array.getElem?_eq_getElem hlt] using h
  show (w.heap.modify b _)[b]? = _
  rw [Array.getElem?_eq_getElem (by simpa using hlt), Array.getElem_modify_self, h']
  rfl
theorem two_set1 {w : World} {b : Nat} {u v x : Value} {t : TypeId} (h : w.heap[b]? = some (.cells #[u, v] t (0, 0))) : (w.setCell ⟨b, 1, none⟩ x).heap[b]? = some (.cells #[u, x] t (0, 0)) := by
  have hlt := lt_of_block h
  have h' : w.heap[b] = .cells #[u, v] t (0, 0) := by simpa [Array.getElem?_eq_getElem hlt] using h
  show (w.heap.modify b _)[b]? = _
  rw [Array.getElem?_eq_getElem (by simpa using hlt), Array.getElem_modify_self, h']
  rfl

theorem Eye.set {w : World} {eb : Nat} {bs bs' : List UInt8} {f : Int} {v' : Value} (h : Eye w eb bs f) (h' : Bs w eb v' bs') : Eye (w.setCell ⟨eb, 0, none⟩ v') eb bs' f := by
  obtain ⟨v, h1, _⟩ := h
  exact ⟨v', two_set0 h1, h'.keep (Ew.set _ _ _ _)⟩

set_option maxHeartbeats 400000 in
theorem next_end (eb : Nat) (f : Int) (w : World) (he : Eye w eb [] f) :
    Calls Tryd.prog 40 #[.pointer (some ⟨eb, 0, none⟩)] w fun e w' => e = .returned (.tuple #[.int .u8 0, .bool false]) ∧ w = w' := by
  obtain ⟨v, h1, ao, c, rfl, _⟩ := he
  have k0 := two_cell0 h1
  clear h1
  go_enter Tryd.func40, Tryd.ntmps40
  go_wp2
  go_ret2
  exact ⟨rfl, rfl⟩

def Took (w w' : World) (eb : Nat) (bs : List UInt8) (f : Int) : Prop := Eye w' eb bs f ∧ Ew eb w w'

set_option maxHeartbeats 400000 in
theorem next_any (eb : Nat) (f : Int) (b : UInt8) (bs : List UInt8) (w : World) (he : Eye w eb (b :: bs) f) :
    Calls Tryd.prog 40 #[.pointer (some ⟨eb, 0, none⟩)] w fun e w' => e = .returned (.tuple #[.int .u8 (b.toNat : Nat), .bool true]) ∧ Took w w' eb bs f := by
  have he0 := Lib.hid he
  obtain ⟨v, h1, ao, c, rfl, hc1, hc2, h4⟩ := he
  obtain ⟨g, o, rfl, hg, hc⟩ := h4 (by simp)
  have k0 := two_cell0 h1
  have k1 := hc 0 (by simp)
  have f0 := two_free (i := 0) h1
  simp at k1 hc1
  have hn : bs.length + 1 ≤ 9223372036854775807 := by omega
  have hlen : (0 : Nat) < bs.length + 1 := by omega
  have hfin : ∀ v', (∃ ao', v' = .slice ao' bs.length (c - 1) ∧ (bs ≠ [] → ao' = some ⟨g, o + 1, none⟩)) → Took w (w.setCell ⟨eb, 0, none⟩ v') eb bs f := by
    rintro v' ⟨ao', rfl, ha⟩
    refine ⟨he0.out.set ⟨ao', c - 1, rfl, by omega, by omega, fun hne => ⟨g, o + 1, ha hne, hg, fun j hj => ?_⟩⟩, Ew.set _ _ _ _⟩
    have := hc (j + 1) (by simp; omega)
    rw [show o + 1 + j = o + (j + 1) by omega, this]
    simp
  have HF := Lib.hid hfin
  clear hfin h1 hc h4
  by_cases hb : bs = []
  · have hb0 : bs.length = 0 := by rw [hb]; rfl
    have HB := Lib.hid hb
    clear hb
    go_enter Tryd.func40, Tryd.ntmps40
    go_wp2
    · go_ret2
      have hc0 : c = 1 := by assumption
      exact ⟨rfl, HF.out _ ⟨_, by rw [hb0, hc0], fun hne => absurd HB.out hne⟩⟩
    · go_ret2
      exact ⟨rfl, HF.out _ ⟨_, by rw [hb0], fun hne => absurd HB.out hne⟩⟩
  · have hb0 : 0 < bs.length := List.length_pos_iff.2 hb
    have hcne : ¬ (c = 1) := by omega
    have hcne' : (1 : Nat) < c := by omega
    go_enter Tryd.func40, Tryd.ntmps40
    go_wp2
    go_ret2
    exact ⟨rfl, HF.out _ ⟨_, rfl, fun _ => rfl⟩⟩

set_option maxHeartbeats 400000 in
theorem left_any (eb : Nat) (f : Int) (bs : List UInt8) (w : World) (he : Eye w eb bs f) :
    Calls Tryd.prog 32 #[.pointer (some ⟨eb, 0, none⟩)] w fun e w' => e = .returned (.int .i64 bs.length) ∧ w = w' := by
  obtain ⟨v, h1, ao, c, rfl, hc1, hc2, _⟩ := he
  have k0 := two_cell0 h1
  clear h1
  go_enter Tryd.func32, Tryd.ntmps32
  go_wp2
  go_ret
  exact ⟨rfl, rfl⟩

set_option maxHeartbeats 400000 in
theorem fault_any (eb : Nat) (f : Int) (bs : List UInt8) (w : World) (he : Eye w eb bs f) :
    Calls Tryd.prog 29 #[.pointer (some ⟨eb, 0, none⟩)] w fun e w' => e = .returned (.int .i64 f) ∧ w = w' := by
  obtain ⟨v, h1, _⟩ := he
  have k0 := two_cell1 h1
  clear h1
  go_enter Tryd.func29, Tryd.ntmps29
  go_wp2
  go_ret
  exact ⟨rfl, rfl⟩

set_option maxHeartbeats 400000 in
theorem close_left (eb : Nat) (f : Int) (bs : List UInt8) (w : World) (hb : 0 < bs.length) (he : Eye w eb bs f) :
    Calls Tryd.prog 19 #[.pointer (some ⟨eb, 0, none⟩)] w fun e w' => e = .returned (.int .i64 12) ∧ w = w' := by
  go_enter Tryd.func19, Tryd.ntmps19
  go_wp2_with fail
  refine (left_any eb f bs _ he).mono ?_
  rintro e w1 ⟨rfl, rfl⟩
  go_wp2
  go_ret
  exact ⟨rfl, rfl⟩

set_option maxHeartbeats 400000 in
theorem close_end (eb : Nat) (f : Int) (w : World) (he : Eye w eb [] f) :
    Calls Tryd.prog 19 #[.pointer (some ⟨eb, 0, none⟩)] w fun e w' => e = .returned (.int .i64 f) ∧ w = w' := by
  go_enter Tryd.func19, Tryd.ntmps19
  go_wp2_with fail
  refine (left_any eb f [] _ he).mono ?_
  rintro e w1 ⟨rfl, rfl⟩
  go_wp2_with fail
  refine (fault_any eb f [] _ he).mono ?_
  rintro e w1 ⟨rfl, rfl⟩
  go_wp2
  go_ret
  exact ⟨rfl, rfl⟩

set_option maxHeartbeats 400000 in
theorem fail_first (eb : Nat) (f : Int) (bs : List UInt8) (w : World) (he : Eye w eb bs 0) :
    Calls Tryd.prog 37 #[.pointer (some ⟨eb, 0, none⟩), .int .i64 f] w fun e w' => e = .returned (.tuple #[]) ∧ Took w w' eb [] f := by
  have he1 := he.set (v' := .slice none 0 0) (Bs.nil _ _)
  obtain ⟨v1, h11, hb1⟩ := he1
  have hfin : Took w ((w.setCell ⟨eb, 0, none⟩ (.slice none 0 0)).setCell ⟨eb, 1, none⟩ (.int .i64 f)) eb [] f :=
    ⟨⟨v1, two_set1 h11, hb1.keep (Ew.set _ _ _ _)⟩, (Ew.set _ _ _ _).trans (Ew.set _ _ _ _)⟩
  have HF := Lib.hid hfin
  obtain ⟨v, h1, ao, c, rfl, _⟩ := he
  have k0 := two_cell0 h1
  have k1 := two_cell1 h1
  have f0 := two_free (i := 0) h1
  have f1 := two_free (i := 1) h1
  clear h1 hfin h11 hb1
  go_enter Tryd.func37, Tryd.ntmps37
  go_wp2
  go_end0
  exact ⟨rfl, HF.out⟩

set_option maxHeartbeats 400000 in
theorem fail_again (eb : Nat) (f g : Int) (bs : List UInt8) (w : World) (hg : (g == 0) = false) (he : Eye w eb bs g) :
    Calls Tryd.prog 37 #[.pointer (some ⟨eb, 0, none⟩), .int .i64 f] w fun e w' => e = .returned (.tuple #[]) ∧ Took w w' eb [] g := by
  have hfin : Took w (w.setCell ⟨eb, 0, none⟩ (.slice none 0 0)) eb [] g := ⟨he.set (v' := .slice none 0 0) (Bs.nil _ _), Ew.set _ _ _ _⟩
  have HF := Lib.hid hfin
  obtain ⟨v, h1, ao, c, rfl, _⟩ := he
  have k0 := two_cell0 h1
  have k1 := two_cell1 h1
  have f0 := two_free (i := 0) h1
  clear h1 hfin
  go_enter Tryd.func37, Tryd.ntmps37
  go_wp2
  go_end0
  exact ⟨rfl, HF.out⟩

set_option maxHeartbeats 400000 in
/-- The eye is made in a new block. -/
theorem look_any (bs : List UInt8) (v : Value) (w : World) (eb : Nat) (heb : eb = w.heap.size) (hb : Bs w eb v bs) :
    Calls Tryd.prog 15 #[v] w fun e w' => e = .returned (.pointer (some ⟨eb, 0, none⟩)) ∧ Took w w' eb bs 0 := by
  subst heb
  have hfin : Took w (w.alloc (.cells #[v, .int .i64 0] 57)) w.heap.size bs 0 :=
    ⟨⟨v, heap_alloc_new _ _, hb.keep ((Ew.refl _ _).alloc _)⟩, (Ew.refl _ _).alloc _⟩
  have HF := Lib.hid hfin
  obtain ⟨ao, c, rfl, _⟩ := hb
  clear hfin
  go_enter Tryd.func15, Tryd.ntmps15
  go_wp2
  go_ret
  exact ⟨rfl, HF.out⟩
end Go.Proofs.YtgckgagnodkhjaaRRRRDoor
