/- op.write: one operation's bytes. Conditions: texts that fit, fewer than 2^40 bytes written. -/
import Derived.Test.YtgckgagnodkhjaaRRRRDoorOpPlain
import Derived.Test.YtgckgagnodkhjaaRRRRDoorPenText
namespace Go.Proofs.YtgckgagnodkhjaaRRRRDoor
open Go.RowKit

def txtL (s : ByteArray) : List UInt8 := Lib.uvarint s.size ++ s.data.toList
/-- A sound operation's bytes, by what its kind uses. -/
def opBytesU (bk bt bv : Bool) (k : Int) (key tx : ByteArray) (v : Nat) (lim : Int) : List UInt8 :=
  Lib.uvarint k.toNat ++ ((if bk = true then txtL key else []) ++ ((if bt = true then txtL tx else []) ++ ((if bv = true then Lib.uvarint v else []) ++ (if bt = true then Lib.uvarint lim.toNat else []))))
/-- An operation's bytes. -/
def opBytes (k : Int) (key tx : ByteArray) (v : Nat) (lim : Int) : List UInt8 :=
  if opSoundB k key tx lim = true then opBytesU (usK k) (usT k) (usV k) k key tx v lim else Lib.uvarint 0

theorem opSound_parts {k : Int} {key tx : ByteArray} {lim : Int} (h : opSoundB k key tx lim = true) : (1 ≤ k ∧ k ≤ 10) ∧ (usK k = true → 1 ≤ key.size ∧ key.size ≤ 64) ∧ (usT k = true → (1 ≤ tx.size ∧ tx.size ≤ 64) ∧ 0 ≤ lim ∧ lim ≤ 4096) := by
  refine ⟨opSound_kind h, ?_, ?_⟩
  · intro hk
    unfold opSoundB at h
    simp only [hk, Bool.and_eq_true, Bool.not_true, Bool.false_or] at h
    have := h.1.1.2
    unfold opKeyB at this
    rw [decide_eq_true_iff] at this
    exact this
  · intro ht
    unfold opSoundB endB limB opKeyB at h
    simp only [ht, Bool.and_eq_true, Bool.not_true, Bool.false_or, decide_eq_true_iff] at h
    exact ⟨h.1.2.1, h.2⟩

theorem Pen.under {w w' : World} {B pb : Nat} {l : List UInt8} (h : Pen w B pb l) (hb : Below w.heap.size w w') : Pen w' B pb l :=
  h.keep fun k hk => hb.block k (by rcases hk with rfl | hk; exact h.lt; exact (h.row k hk).2.1)
theorem penRow_under {w w' : World} {B pb : Nat} {l : List UInt8} (h : Pen w B pb l) (hb : Below w.heap.size w w') : penRow w' pb = penRow w pb := by
  unfold penRow
  rw [World.cell?_of_block (w := w) (a := ⟨pb, 0, none⟩) (hb.block pb h.lt)]
theorem Wr.under {w w' : World} {B pb : Nat} {l : List UInt8} (h : Pen w B pb l) (hb : Below w.heap.size w w') : Wr pb w w' :=
  ⟨hb.os, hb.tape, hb.output, hb.size, fun k hk _ _ => hb.block k hk, Or.inl (penRow_under h hb)⟩

end Go.Proofs.YtgckgagnodkhjaaRRRRDoor
