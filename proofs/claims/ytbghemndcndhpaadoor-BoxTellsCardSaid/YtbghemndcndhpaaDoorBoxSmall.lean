/- box.Truth, Number, Text; Kind, Truth, Number, Text, Deep of a box. No condition. -/
import Derived.Test.YtbghemndcndhpaaDoorBoxFacts
namespace Go.Proofs.YtbghemndcndhpaaDoor
open Go.RowKit

theorem alloc_below (w : World) (o : Obj) : Below w.heap.size w (w.alloc o) := (one_alloc w o).2

/-- A box is told. -/
def BoxGives (S : Nat → Prop) (w w' : World) (e : Ending) (b : Bx) : Prop := ∃ v, e = .returned (.agg #[v]) ∧ BoxIs S w' b v ∧ Below w.heap.size w w'

set_option maxHeartbeats 1000000 in
theorem newtruth_any (S : Nat → Prop) (b : Bool) (w : World) : Calls Tryd.prog 27 #[.bool b] w fun e w' => BoxGives S w w' e (.truth b) := by
  go_enter Tryd.func27, Tryd.ntmps27
  go_wp2
  refine bodyPost_ret (v := .agg #[.iface 4 (.bool b)]) (by simp [results, Tryd.results27, go_sem]) rfl ⟨.iface 4 (.bool b), rfl, by rw [BoxIs], ?_⟩
  exact alloc_below w _

set_option maxHeartbeats 1000000 in
theorem newnumber_any (S : Nat → Prop) (n : Nat) (w : World) : Calls Tryd.prog 23 #[.int .u64 n] w fun e w' => BoxGives S w w' e (.number n) := by
  go_enter Tryd.func23, Tryd.ntmps23
  go_wp2
  refine bodyPost_ret (v := .agg #[.iface 22 (.int .u64 n)]) (by simp [results, Tryd.results23, go_sem]) rfl ⟨.iface 22 (.int .u64 n), rfl, by rw [BoxIs], ?_⟩
  exact alloc_below w _

set_option maxHeartbeats 1000000 in
theorem newtext_any (S : Nat → Prop) (s : ByteArray) (w : World) : Calls Tryd.prog 25 #[.string s] w fun e w' => BoxGives S w w' e (.text s) := by
  go_enter Tryd.func25, Tryd.ntmps25
  go_wp2
  refine bodyPost_ret (v := .agg #[.iface 9 (.string s)]) (by simp [results, Tryd.results25, go_sem]) rfl ⟨.iface 9 (.string s), rfl, by rw [BoxIs], ?_⟩
  exact alloc_below w _

set_option maxHeartbeats 2000000 in
theorem kind_any (S : Nat → Prop) (b : Bx) (v : Value) (w : World) (h : BoxIs S w b v) : Calls Tryd.prog 14 #[.agg #[v]] w fun e w' => e = .returned (.int .i64 (kindB b : Nat)) ∧ Below w.heap.size w w' := by
  have HB := Lib.hid (fun x => alloc_below w (.cells #[x] 29))
  cases b with
  | nothing =>
    rw [BoxIs] at h
    subst h
    go_enter Tryd.func14, Tryd.ntmps14
    go_wp2
    go_ret
    exact ⟨rfl, HB.out _⟩
  | truth b =>
    rw [BoxIs] at h
    subst h
    go_enter Tryd.func14, Tryd.ntmps14
    go_wp2
    go_ret
    exact ⟨rfl, HB.out _⟩
  | number n =>
    rw [BoxIs] at h
    subst h
    go_enter Tryd.func14, Tryd.ntmps14
    go_wp2
    go_ret
    exact ⟨rfl, HB.out _⟩
  | text s =>
    rw [BoxIs] at h
    subst h
    go_enter Tryd.func14, Tryd.ntmps14
    go_wp2
    go_ret
    exact ⟨rfl, HB.out _⟩
  | list l =>
    rw [BoxIs] at h
    obtain ⟨g, h, hg, hl⟩ := h
    have HL := Lib.hid (And.intro hg hl)
    clear hg hl
    subst h
    go_enter Tryd.func14, Tryd.ntmps14
    go_wp2
    go_ret
    exact ⟨rfl, HB.out _⟩

def truthOf : Bx → Bool × Bool | .truth b => (b, true) | .nothing => (false, false) | .number _ => (false, false) | .text _ => (false, false) | .list _ => (false, false)
def numOf : Bx → Nat × Bool | .number n => (n, true) | .nothing => (0, false) | .truth _ => (0, false) | .text _ => (0, false) | .list _ => (0, false)
def textOf : Bx → ByteArray × Bool | .text s => (s, true) | .nothing => (⟨#[]⟩, false) | .truth _ => (⟨#[]⟩, false) | .number _ => (⟨#[]⟩, false) | .list _ => (⟨#[]⟩, false)

set_option maxHeartbeats 2000000 in
theorem truthOf_any (S : Nat → Prop) (b : Bx) (v : Value) (w : World) (h : BoxIs S w b v) : Calls Tryd.prog 10 #[.agg #[v]] w fun e w' => e = .returned (.tuple #[.bool (truthOf b).1, .bool (truthOf b).2]) ∧ Below w.heap.size w w' := by
  have HB := Lib.hid (fun x => alloc_below w (.cells #[x] 29))
  cases b with
  | nothing =>
    rw [BoxIs] at h
    subst h
    go_enter Tryd.func10, Tryd.ntmps10
    go_wp2
    go_ret2
    exact ⟨rfl, HB.out _⟩
  | truth b =>
    rw [BoxIs] at h
    subst h
    go_enter Tryd.func10, Tryd.ntmps10
    go_wp2
    go_ret2
    exact ⟨rfl, HB.out _⟩
  | number n =>
    rw [BoxIs] at h
    subst h
    go_enter Tryd.func10, Tryd.ntmps10
    go_wp2
    go_ret2
    exact ⟨rfl, HB.out _⟩
  | text s =>
    rw [BoxIs] at h
    subst h
    go_enter Tryd.func10, Tryd.ntmps10
    go_wp2
    go_ret2
    exact ⟨rfl, HB.out _⟩
  | list l =>
    rw [BoxIs] at h
    obtain ⟨g, h, hg, hl⟩ := h
    have HL := Lib.hid (And.intro hg hl)
    clear hg hl
    subst h
    go_enter Tryd.func10, Tryd.ntmps10
    go_wp2
    go_ret2
    exact ⟨rfl, HB.out _⟩

set_option maxHeartbeats 2000000 in
theorem numOf_any (S : Nat → Prop) (b : Bx) (v : Value) (w : World) (h : BoxIs S w b v) : Calls Tryd.prog 11 #[.agg #[v]] w fun e w' => e = .returned (.tuple #[.int .u64 (numOf b).1, .bool (numOf b).2]) ∧ Below w.heap.size w w' := by
  have HB := Lib.hid (fun x => alloc_below w (.cells #[x] 29))
  cases b with
  | nothing =>
    rw [BoxIs] at h
    subst h
    go_enter Tryd.func11, Tryd.ntmps11
    go_wp2
    go_ret2
    exact ⟨rfl, HB.out _⟩
  | truth b =>
    rw [BoxIs] at h
    subst h
    go_enter Tryd.func11, Tryd.ntmps11
    go_wp2
    go_ret2
    exact ⟨rfl, HB.out _⟩
  | number n =>
    rw [BoxIs] at h
    subst h
    go_enter Tryd.func11, Tryd.ntmps11
    go_wp2
    go_ret2
    exact ⟨rfl, HB.out _⟩
  | text s =>
    rw [BoxIs] at h
    subst h
    go_enter Tryd.func11, Tryd.ntmps11
    go_wp2
    go_ret2
    exact ⟨rfl, HB.out _⟩
  | list l =>
    rw [BoxIs] at h
    obtain ⟨g, h, hg, hl⟩ := h
    have HL := Lib.hid (And.intro hg hl)
    clear hg hl
    subst h
    go_enter Tryd.func11, Tryd.ntmps11
    go_wp2
    go_ret2
    exact ⟨rfl, HB.out _⟩

set_option maxHeartbeats 2000000 in
theorem textOf_any (S : Nat → Prop) (b : Bx) (v : Value) (w : World) (h : BoxIs S w b v) : Calls Tryd.prog 12 #[.agg #[v]] w fun e w' => e = .returned (.tuple #[.string (textOf b).1, .bool (textOf b).2]) ∧ Below w.heap.size w w' := by
  have HB := Lib.hid (fun x => alloc_below w (.cells #[x] 29))
  cases b with
  | nothing =>
    rw [BoxIs] at h
    subst h
    go_enter Tryd.func12, Tryd.ntmps12
    go_wp2
    go_ret2
    exact ⟨rfl, HB.out _⟩
  | truth b =>
    rw [BoxIs] at h
    subst h
    go_enter Tryd.func12, Tryd.ntmps12
    go_wp2
    go_ret2
    exact ⟨rfl, HB.out _⟩
  | number n =>
    rw [BoxIs] at h
    subst h
    go_enter Tryd.func12, Tryd.ntmps12
    go_wp2
    go_ret2
    exact ⟨rfl, HB.out _⟩
  | text s =>
    rw [BoxIs] at h
    subst h
    go_enter Tryd.func12, Tryd.ntmps12
    go_wp2
    go_ret2
    exact ⟨rfl, HB.out _⟩
  | list l =>
    rw [BoxIs] at h
    obtain ⟨g, h, hg, hl⟩ := h
    have HL := Lib.hid (And.intro hg hl)
    clear hg hl
    subst h
    go_enter Tryd.func12, Tryd.ntmps12
    go_wp2
    go_ret2
    exact ⟨rfl, HB.out _⟩

set_option maxHeartbeats 2000000 in
theorem deep_any (S : Nat → Prop) (b : Bx) (v : Value) (w : World) (h : BoxIs S w b v) : Calls Tryd.prog 19 #[.agg #[v]] w fun e w' => e = .returned (.int .i64 (deepB b : Nat)) ∧ Below w.heap.size w w' := by
  have HB := Lib.hid (fun x => alloc_below w (.cells #[x] 29))
  cases b with
  | nothing =>
    rw [BoxIs] at h
    subst h
    go_enter Tryd.func19, Tryd.ntmps19
    go_wp2
    go_ret
    exact ⟨rfl, (HB.out _).alloc (by simp) _⟩
  | truth b =>
    rw [BoxIs] at h
    subst h
    go_enter Tryd.func19, Tryd.ntmps19
    go_wp2
    go_ret
    exact ⟨rfl, (HB.out _).alloc (by simp) _⟩
  | number n =>
    rw [BoxIs] at h
    subst h
    go_enter Tryd.func19, Tryd.ntmps19
    go_wp2
    go_ret
    exact ⟨rfl, (HB.out _).alloc (by simp) _⟩
  | text s =>
    rw [BoxIs] at h
    subst h
    go_enter Tryd.func19, Tryd.ntmps19
    go_wp2
    go_ret
    exact ⟨rfl, (HB.out _).alloc (by simp) _⟩
  | list l =>
    rw [BoxIs] at h
    obtain ⟨g, h, hg, hl⟩ := h
    have HL := Lib.hid (And.intro hg hl)
    clear hg hl
    subst h
    go_enter Tryd.func19, Tryd.ntmps19
    go_wp2
    go_ret
    exact ⟨rfl, (HB.out _).alloc (by simp) _⟩
end Go.Proofs.YtbghemndcndhpaaDoor
