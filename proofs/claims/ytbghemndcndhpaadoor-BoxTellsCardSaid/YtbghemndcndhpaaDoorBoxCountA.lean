/- (box.Box).Count. Condition: at most 2^30 boxes. -/
import Derived.Test.YtbghemndcndhpaaDoorBoxCount
import Derived.Laws.EntriesVeiled
namespace Go.Proofs.YtbghemndcndhpaaDoor
open Go.RowKit

set_option maxHeartbeats 2000000 in
theorem count_any (S : Nat → Prop) (b : Bx) (v : Value) (kind : Int) (w : World) (hv : BoxIs S w b v) (hw : wB b ≤ 1073741824) :
    Calls Tryd.prog 17 #[.agg #[v], .int .i64 kind] w fun e w' => e = .returned (.int .i64 (countB kind b : Nat)) ∧ Below w.heap.size w w' := by
  have hb1 := alloc_below w (.cells #[v] 29)
  have HB1 := Lib.hid hb1
  have hform := hv.form
  have HV := Lib.hid hv
  clear hv hb1
  obtain ⟨fv, hfv⟩ : ∃ fv : Value, fv = .func (.func 32) #[] #[.pointer (some ⟨w.heap.size + 1, 0, none⟩), .pointer (some ⟨w.heap.size + 1 + 1, 0, none⟩)] := ⟨_, rfl⟩
  obtain ⟨W3, hW3⟩ : ∃ W3, W3 = ((w.alloc (.cells #[v] 29)).alloc (.cells #[.int .i64 kind] 3)).alloc (.cells #[fv] 65) := ⟨_, rfl⟩
  have hb3 : Below w.heap.size w W3 := by rw [hW3]; exact (HB1.out.alloc (by simp) _).alloc (by simp; omega) _
  have ho1 : W3.cell? ⟨w.heap.size + 1, 0, none⟩ = some (.int .i64 kind) := by
    have h := One.alloc (w.alloc (.cells #[v] 29)) (.int .i64 kind) 3
    have h2 := (h.keep (alloc_below _ (.cells #[fv] 65))).c
    rw [World.size_alloc] at h2
    rw [hW3]
    exact h2
  have ho2 : W3.cell? ⟨w.heap.size + 1 + 1, 0, none⟩ = some fv := by
    have h := One.alloc ((w.alloc (.cells #[v] 29)).alloc (.cells #[.int .i64 kind] 3)) fv 65
    rw [World.size_alloc, World.size_alloc] at h
    rw [hW3]
    exact h.c
  subst hfv
  have HC := Lib.hid (countIn_any b S v (w.heap.size + 1) (w.heap.size + 1 + 1) kind W3 (HV.out.below hb3) ho1 ho2 hw)
  have HB3 := Lib.hid hb3
  have HW3 := Lib.hid hW3
  clear hb3 ho1 ho2 hW3 hw
  rcases hform with rfl | ⟨t, u, rfl⟩
  all_goals
    go_enter Tryd.func17, Tryd.ntmps17
    go_wp2_with fail
    rw [← HW3.out]
    refine HC.out.mono ?_
    rintro e w2 ⟨rfl, hb2⟩
    have H := Lib.hid (HB3.out.trans (hb2.mono HB3.out.size))
    clear hb2
    go_wp2
    go_ret
    exact ⟨rfl, H.out⟩
end Go.Proofs.YtbghemndcndhpaaDoor
