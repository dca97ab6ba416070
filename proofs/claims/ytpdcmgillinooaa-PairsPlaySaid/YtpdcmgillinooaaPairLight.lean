/- The law's own 'light' (bowerlaw06.light): where it answers true, there are at most 60 acts, and no text is longer than 100 bytes. Condition: the list's cells are there. -/
import Derived.Test.YtpdcmgillinooaaPairScan
namespace Go.Proofs.Ytpdcmgillinooaa
open Go.RowKit

/-- An act's fields. -/
structure It where
  kind : Int
  key : ByteArray
  val : Int
  high : ByteArray
  limit : Int

def It.vals (x : It) : List Value := [.int .i64 x.kind, .string x.key, .int .u64 x.val, .string x.high, .int .i64 x.limit]

def It.ok (x : It) : Prop := (0 ≤ x.val ∧ x.val < 18446744073709551616) ∧ (-9223372036854775808 ≤ x.limit ∧ x.limit ≤ 9223372036854775807) ∧ x.key.size ≤ 9223372036854775807 ∧ x.high.size ≤ 9223372036854775807

/-- The list's items lie in the world, in blocks below N. -/
def Items (w : World) (N : Nat) (ao : Option Addr) (len : Nat) (X : Nat → It) : Prop :=
  ∀ i, i < len → ∃ b off, ao = some ⟨b, off, none⟩ ∧ b < N ∧ ∀ j v, (X i).vals[j]? = some v → w.cell? ⟨b, off + i * 5 + j, none⟩ = some v

theorem Items.keep {w w' : World} {N : Nat} {ao : Option Addr} {len : Nat} {X : Nat → It} (h : Items w N ao len X) (hb : Below N w w') : Items w' N ao len X := by
  intro i hi
  obtain ⟨b, off, e, hlt, hc⟩ := h i hi
  exact ⟨b, off, e, hlt, fun j v hv => (hb.cell (p := ⟨b, off + i * 5 + j, none⟩) hlt).trans (hc j v hv)⟩

def LightDone (w w' : World) (e : Ending) (len : Nat) (X : Nat → It) : Prop :=
  ∃ b, e = .returned (.bool b) ∧ (b = true → (∀ i, i < len → (X i).key.size ≤ 100 ∧ (X i).high.size ≤ 100) ∧ len ≤ 60) ∧ Below w.heap.size w w'

set_option maxHeartbeats 1600000 in
set_option maxRecDepth 100000 in
theorem lightA_any (ao : Option Addr) (len cap : Nat) (X : Nat → It) (w : World) (hx : Items w w.heap.size ao len X) (hok : ∀ i, i < len → (X i).ok) (hlen : len ≤ 9223372036854775807) :
    Calls Try.prog 6 #[.slice ao len cap] w fun e w' => LightDone w w' e len X := by
  have HX := Lib.hid hx
  have HK := Lib.hid hok
  clear hx hok
  go_enter Try.func6, Try.ntmps6
  go_wp2
  go_loopw [7] (fun vj wr => ∃ j : Nat, vj = .int .i64 j ∧ j ≤ len ∧ Hid (∀ i, i < j → (X i).key.size ≤ 100 ∧ (X i).high.size ≤ 100) ∧ Below w.heap.size w wr) (fun vj _ => len - (intOf vj).toNat)
  case atStart => exact ⟨0, rfl, Nat.zero_le _, Lib.hid (fun i hi => absurd hi (Nat.not_lt_zero _)), Below.refl _ _⟩
  case round =>
    obtain ⟨j, rfl, hj, hall, hb⟩ := hrel
    by_cases hlt : j < len
    · obtain ⟨b, off, rfl, hbN, hc⟩ := (HX.out.keep hb) j hlt
      have hk := HK.out j hlt
      have HA := hall
      clear hall
      generalize hxj : X j = x at *
      have HJ := Lib.hid hxj
      clear hxj
      obtain ⟨kind, key, val, high, limit⟩ := x
      have c0 := hc 0 _ rfl
      have c1 := hc 1 _ rfl
      have c2 := hc 2 _ rfl
      have c3 := hc 3 _ rfl
      have c4 := hc 4 _ rfl
      have hs1 : key.size ≤ 9223372036854775807 := hk.2.2.1
      have hs2 : high.size ≤ 9223372036854775807 := hk.2.2.2
      clear hc hk
      rw [Nat.add_zero] at c0
      by_cases hk1 : 100 < key.size
      · have gk : (100 : Int) < key.size := by omega
        go_wp2
        go_ret
        exact ⟨false, rfl, fun h => absurd h (by simp), hb.alloc hb.size _⟩
      · have gk : (key.size : Int) ≤ 100 := by omega
        by_cases hk2 : 100 < high.size
        · have gh : (100 : Int) < high.size := by omega
          go_wp2
          go_ret
          exact ⟨false, rfl, fun h => absurd h (by simp), hb.alloc hb.size _⟩
        · have gh : (high.size : Int) ≤ 100 := by omega
          go_wp2
          go_roundw
          case rel =>
            refine ⟨j + 1, by go_num, by omega, fun i hi => ?_, hb.alloc hb.size _⟩
            by_cases e : i = j
            · subst e; rw [HJ.out]; exact ⟨by show key.size ≤ 100; omega, by show high.size ≤ 100; omega⟩
            · exact HA.out i (by omega)
          case measure => simp [intOf]; omega
    · have hjl : j = len := by omega
      subst hjl
      go_wp2
      go_ret
      refine ⟨_, rfl, fun h => ⟨hall.out, ?_⟩, hb⟩
      have h' := h
      simp at h'
      omega
end Go.Proofs.Ytpdcmgillinooaa
