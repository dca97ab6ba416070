/- Facts on worlds for the laws of sip: a pen's state and what writing with it leaves alone. No walk. -/
import Derived.Test.YtgckgagnodkhjaaRRRRDoorPenW
namespace Go.Proofs.YtgckgagnodkhjaaRRRRDoor
open Go.RowKit

/-- The row that the pen at a block writes into. -/
def penRow (w : World) (pb : Nat) : Option Nat := (w.cell? ⟨pb, 0, none⟩).bind Value.ownBlock

/-- The pen at block pb has the bytes l, in a row from B on. -/
def Pen (w : World) (B pb : Nat) (l : List UInt8) : Prop :=
  ∃ v, w.heap[pb]? = some (.cells #[v] 38 (0, 0)) ∧ w.ownsRow B 5 1 v l.length (Lib.byteCells l) ∧ v.ownBlock ≠ some pb ∧ B ≤ pb

/-- Writing with the pen at pb: blocks that are neither the pen's own nor its row's are as they were; its row is the old one or a new one. -/
structure Wr (pb : Nat) (w w' : World) : Prop where
  os : w'.os = w.os
  tape : w'.tape = w.tape
  output : w'.output = w.output
  size : w.heap.size ≤ w'.heap.size
  block : ∀ k, k < w.heap.size → k ≠ pb → some k ≠ penRow w pb → w'.heap[k]? = w.heap[k]?
  row : penRow w' pb = penRow w pb ∨ ∃ g, penRow w' pb = some g ∧ w.heap.size ≤ g

theorem Wr.refl (pb : Nat) (w : World) : Wr pb w w := ⟨rfl, rfl, rfl, Nat.le_refl _, fun _ _ _ _ => rfl, Or.inl rfl⟩

theorem Wr.trans {pb : Nat} {a b c : World} (h : Wr pb a b) (k : Wr pb b c) : Wr pb a c := by
  refine ⟨k.os.trans h.os, k.tape.trans h.tape, k.output.trans h.output, Nat.le_trans h.size k.size, fun i hi h1 h2 => ?_, ?_⟩
  · refine (k.block i (Nat.lt_of_lt_of_le hi h.size) h1 ?_).trans (h.block i hi h1 h2)
    rcases h.row with e | ⟨g, e, hg⟩
    · rw [e]; exact h2
    · rw [e]; intro e2; injection e2 with e2; omega
  · rcases k.row with e | ⟨g, e, hg⟩
    · rw [e]; exact h.row
    · exact Or.inr ⟨g, e, Nat.le_trans h.size hg⟩

theorem Wr.drew {pb : Nat} {a w : World} (h : Wr pb a w) : Wr pb a w.drew := ⟨h.os, h.tape, h.output, h.size, h.block, h.row⟩

theorem Wr.alloc {pb : Nat} {a w : World} (h : Wr pb a w) (hp : pb < w.heap.size) (o : Obj) : Wr pb a (w.alloc o) :=
  h.trans ⟨rfl, rfl, rfl, by simp, fun k hk _ _ => Below.heap_alloc _ _ _ hk, Or.inl (by unfold penRow; rw [World.cell?_alloc_past _ _ _ hp])⟩

theorem Pen.lt {w : World} {B pb : Nat} {l : List UInt8} (h : Pen w B pb l) : pb < w.heap.size := by obtain ⟨v, h, _⟩ := h; exact lt_of_block h

theorem Pen.row {w : World} {B pb : Nat} {l : List UInt8} (h : Pen w B pb l) : ∀ k, penRow w pb = some k → B ≤ k ∧ k < w.heap.size ∧ k ≠ pb := by
  obtain ⟨v, h1, h2, h3, _⟩ := h
  intro k hk
  unfold penRow at hk
  rw [cell_of_one h1] at hk
  have hk' : v.ownBlock = some k := by simpa using hk
  have := h2.lt k hk'
  exact ⟨this.1, this.2, fun e => h3 (by rw [hk', e])⟩

/-- A pen whose own block, and its row, are as they were. -/
theorem Pen.keep {w w' : World} {B pb : Nat} {l : List UInt8} (h : Pen w B pb l) (hk : ∀ k, (k = pb ∨ penRow w pb = some k) → w'.heap[k]? = w.heap[k]?) : Pen w' B pb l := by
  obtain ⟨v, h1, h2, h3, h4⟩ := h
  have hr : ∀ k, v.ownBlock = some k → penRow w pb = some k := by
    intro k e; unfold penRow; rw [cell_of_one h1]; simpa using e
  refine ⟨v, by rw [hk pb (Or.inl rfl)]; exact h1, ?_, h3, h4⟩
  refine ⟨h2.1, ?_⟩
  rcases h2.2 with hn | ⟨g, cap, cur, rfl, hb, hgg, rest⟩
  · exact Or.inl hn
  · exact Or.inr ⟨g, cap, cur, rfl, hb, by rw [hk g (Or.inr (hr g rfl))]; exact hgg, rest⟩

theorem Pen.alloc {w : World} {B pb : Nat} {l : List UInt8} (h : Pen w B pb l) (o : Obj) : Pen (w.alloc o) B pb l :=
  h.keep fun k hk => Below.heap_alloc _ _ _ (by rcases hk with rfl | hk; exact h.lt; exact (h.row k hk).2.1)

theorem Pen.drew {w : World} {B pb : Nat} {l : List UInt8} (h : Pen w B pb l) : Pen w.drew B pb l := h

theorem Wr.below {w w' : World} {B pb : Nat} {l : List UInt8} (h : Wr pb w w') (hp : Pen w B pb l) (hB : B ≤ w.heap.size) : Below B w w' := by
  have h4 : B ≤ pb := by obtain ⟨_, _, _, _, h4⟩ := hp; exact h4
  refine ⟨h.os, h.tape, h.output, h.size, fun k hk => h.block k (by omega) (by omega) (fun e => ?_)⟩
  have := (hp.row k e.symm).1
  omega

/-- A cell that is neither the pen's nor its row's. -/
theorem Wr.cell {w w' : World} {pb : Nat} (h : Wr pb w w') {p : Addr} (h0 : p.block < w.heap.size) (h1 : p.block ≠ pb) (h2 : some p.block ≠ penRow w pb) : w'.cell? p = w.cell? p := World.cell?_of_block (w := w) (h.block p.block h0 h1 h2)

/-- Behind an append and the store of what came of it. -/
theorem pen_step {w w0 w1 : World} {B pb : Nat} {l new : List UInt8} {v v' : Value}
    (h1 : w.heap[pb]? = some (.cells #[v] 38 (0, 0))) (h3 : v.ownBlock ≠ some pb) (h4 : B ≤ pb)
    (h0 : ∀ k, k < w.heap.size → w0.heap[k]? = w.heap[k]?) (hs : w.heap.size ≤ w0.heap.size) (ho : w0.os = w.os) (ht : w0.tape = w.tape) (hout : w0.output = w.output)
    (hown : w1.ownsRow B 5 1 v' (l.length + new.length) (Lib.byteCells l ++ Lib.byteCells new)) (hg : w0.grownBy w1 v.ownBlock) (hsep : Sep w0 v v') :
    Pen (w1.setCell ⟨pb, 0, none⟩ v') B pb (l ++ new) ∧ Wr pb w (w1.setCell ⟨pb, 0, none⟩ v') := by
  have hlt := lt_of_block h1
  have hp1 : w1.heap[pb]? = some (.cells #[v] 38 (0, 0)) := by
    rw [hg.block pb (by omega) (fun e => h3 e.symm), h0 pb hlt]; exact h1
  have hne : v'.ownBlock ≠ some pb := by
    rcases hsep with e | ⟨g, e, hge⟩
    · rw [e]; exact h3
    · rw [e]; intro e2; injection e2 with e2; omega
  have hrow : penRow w pb = v.ownBlock := by unfold penRow; rw [cell_of_one h1]; rfl
  have hrow' : penRow (w1.setCell ⟨pb, 0, none⟩ v') pb = v'.ownBlock := by unfold penRow; rw [cell_of_one (one_setCell hp1)]; rfl
  refine ⟨⟨v', one_setCell hp1, ?_, hne, h4⟩, ⟨hg.os.trans ho, hg.tape.trans ht, hg.output.trans hout, by simp [World.setCell]; exact Nat.le_trans hs hg.size, fun k hk h5 h6 => ?_, ?_⟩⟩
  · have := ownsRow_setCell_other hown (a := ⟨pb, 0, none⟩) hne v'
    simpa [Lib.byteCells_append] using this
  · rw [Below.heap_setCell _ _ _ _ h5, hg.block k (by omega) (by rw [← hrow]; exact h6), h0 k hk]
  · rw [hrow, hrow']
    rcases hsep with e | ⟨g, e, hge⟩
    · exact Or.inl e
    · exact Or.inr ⟨g, e, Nat.le_trans hs hge⟩

end Go.Proofs.YtgckgagnodkhjaaRRRRDoor
