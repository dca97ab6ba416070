/- Lists of operations in memory; bowerlaw16.Light; op.Write; the law's own lives. Conditions: the list's cells are there; the table of names. -/
import Derived.Test.YtgckgagnodkhjaaRRRRDoorOpWrite
import Derived.Test.YtgckgagnodkhjaaRRRRDoorEyeText
import Derived.Deep.RegionHeldLaw
namespace Go.Proofs.YtgckgagnodkhjaaRRRRDoor
open Go.RowKit

/-- An operation's fields. -/
structure OpV where
  k : Int
  key : ByteArray
  tx : ByteArray
  v : Nat
  lim : Int
def OpV.vals (x : OpV) : List Value := [.int .i64 x.k, .string x.key, .string x.tx, .int .u64 x.v, .int .i64 x.lim]
def OpV.ok (x : OpV) : Prop := x.v < 18446744073709551616 ∧ (x.key.size ≤ 9223372036854775807 ∧ x.tx.size ≤ 9223372036854775807)
/-- Are the texts short? -/
def OpV.short (x : OpV) : Prop := x.key.size ≤ 200 ∧ x.tx.size ≤ 200
def OpV.bytes (x : OpV) : List UInt8 := opBytes x.k x.key x.tx x.v x.lim

/-- The list's operations lie in the world, in blocks below N. -/
def Ops (w : World) (N : Nat) (ao : Option Addr) (len : Nat) (X : Nat → OpV) : Prop :=
  ∀ i, i < len → ∃ b off, ao = some ⟨b, off, none⟩ ∧ b < N ∧ ∀ j v, (X i).vals[j]? = some v → w.cell? ⟨b, off + i * 5 + j, none⟩ = some v
theorem Ops.keep {w w' : World} {N : Nat} {ao : Option Addr} {len : Nat} {X : Nat → OpV} (h : Ops w N ao len X) (hb : Below N w w') : Ops w' N ao len X := by
  intro i hi
  obtain ⟨b, off, e, hlt, hc⟩ := h i hi
  exact ⟨b, off, e, hlt, fun j v hv => (hb.cell (p := ⟨b, off + i * 5 + j, none⟩) hlt).trans (hc j v hv)⟩

theorem opBytes_len (x : OpV) (h : x.v < 18446744073709551616) (hs : x.short) : 1 ≤ x.bytes.length ∧ x.bytes.length ≤ 500 := by
  obtain ⟨h1, h2⟩ := hs
  unfold OpV.bytes opBytes
  split
  · rename_i hsd
    obtain ⟨⟨a1, a2⟩, _, a3⟩ := opSound_parts hsd
    have u1 := Lib.uvarint_length64 (x := x.k.toNat) (by omega)
    have p1 := Lib.uvarint_pos x.k.toNat
    have u2 := Lib.uvarint_length64 (x := x.key.size) (by omega)
    have u3 := Lib.uvarint_length64 (x := x.tx.size) (by omega)
    have u4 := Lib.uvarint_length64 h
    have k1 : (if usK x.k = true then txtL x.key else []).length ≤ 210 := by
      split
      · unfold txtL; rw [List.length_append, size_list]; omega
      · simp
    have k2 : (if usT x.k = true then txtL x.tx else []).length ≤ 210 := by
      split
      · unfold txtL; rw [List.length_append, size_list]; omega
      · simp
    have k3 : (if usV x.k = true then Lib.uvarint x.v else []).length ≤ 10 := by
      split
      · exact u4
      · simp
    have k4 : (if usT x.k = true then Lib.uvarint x.lim.toNat else []).length ≤ 10 := by
      split
      · rename_i ht
        have := (a3 ht).2
        exact Lib.uvarint_length64 (by omega)
      · simp
    unfold opBytesU
    rw [List.length_append, List.length_append, List.length_append, List.length_append]
    omega
  · have u1 := Lib.uvarint_length64 (x := 0) (by omega)
    have p1 := Lib.uvarint_pos 0
    omega

/-- The bytes of the first n operations. -/
def opsB (X : Nat → OpV) (n : Nat) : List UInt8 := (List.range n).flatMap fun i => (X i).bytes
theorem opsB_zero (X : Nat → OpV) : opsB X 0 = [] := rfl
theorem opsB_succ (X : Nat → OpV) (n : Nat) : opsB X (n + 1) = opsB X n ++ (X n).bytes := by
  unfold opsB
  rw [List.range_succ, List.flatMap_append]
  simp

def OLight (w w' : World) (e : Ending) (len : Nat) (X : Nat → OpV) : Prop :=
  ∃ b, e = .returned (.bool b) ∧ (b = true → (∀ i, i < len → (X i).short) ∧ len ≤ 40) ∧ Below w.heap.size w w'

/-- The two operations of lives. -/
def livesX (i : Nat) : OpV := if i = 0 then ⟨1, ⟨#[97]⟩, ⟨#[]⟩, 7, 0⟩ else ⟨10, ⟨#[97]⟩, ⟨#[98]⟩, 0, 5⟩
theorem livesX_bytes : opsB livesX 2 = [1, 1, 97, 10, 1, 97, 1, 98, 5] := by
  have u1 : Lib.uvarint 1 = [1] := Lib.uvarint_small (by omega)
  have u5 : Lib.uvarint 5 = [5] := Lib.uvarint_small (by omega)
  have u10 : Lib.uvarint 10 = [10] := Lib.uvarint_small (by omega)
  have e0 : (livesX 0).bytes = [1, 1, 97] := by
    show opBytes 1 ⟨#[97]⟩ ⟨#[]⟩ 7 0 = _
    unfold opBytes
    rw [if_pos (by kernel_rfl)]
    unfold opBytesU
    rw [if_pos (by kernel_rfl), if_neg (by decide +kernel), if_neg (by decide +kernel), if_neg (by decide +kernel)]
    show Lib.uvarint 1 ++ ((Lib.uvarint 1 ++ [97]) ++ ([] ++ ([] ++ []))) = _
    rw [u1]; rfl
  have e1 : (livesX 1).bytes = [10, 1, 97, 1, 98, 5] := by
    show opBytes 10 ⟨#[97]⟩ ⟨#[98]⟩ 0 5 = _
    unfold opBytes
    rw [if_pos (by kernel_rfl)]
    unfold opBytesU
    rw [if_pos (by kernel_rfl), if_pos (by kernel_rfl), if_neg (by decide +kernel), if_pos (by kernel_rfl)]
    show Lib.uvarint 10 ++ ((Lib.uvarint 1 ++ [97]) ++ ((Lib.uvarint 1 ++ [98]) ++ ([] ++ Lib.uvarint 5))) = _
    rw [u1, u5, u10]; rfl
  rw [opsB_succ, opsB_succ, opsB_zero, e0, e1]
  rfl
end Go.Proofs.YtgckgagnodkhjaaRRRRDoor
