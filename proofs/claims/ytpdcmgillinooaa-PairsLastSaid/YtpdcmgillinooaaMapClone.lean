/- (*pairs.Map).Clone. Condition: at most 2^37 pairs. -/
import Derived.Test.YtpdcmgillinooaaMapScan
import Derived.Deep.RegionHeldLaw
namespace Go.Proofs.Ytpdcmgillinooaa
open Go.RowKit

/-- A row in memory that was not there. -/
structure NewRow (w w' : World) (B : Nat) (e : TypeId) (v : Value) (xs : List Value) : Prop where
  row : RowAt w' B e v xs
  new : ∀ b, v.ownBlock = some b → w.heap.size ≤ b
  below : Below w.heap.size w w'

theorem NewRow.open {w w' : World} {B : Nat} {e : TypeId} {v : Value} {xs : List Value} (h : NewRow w w' B e v xs) : ∃ ao, v = .slice ao xs.length xs.length := h.row.open

theorem cloneK (ao : Option Addr) (n B : Nat) (ss : List (ByteArray × Int)) (w : World) (h : RowAt w B 9 (.slice ao n n) (kcells ss)) (hB : B ≤ w.heap.size) (hn : n = ss.length) (hl : ss.length ≤ 137438953472) :
    Calls Try.prog 35 #[.slice ao n n, .int .i64 0, .int .i64 n] w fun e w' => ∃ v, e = .returned v ∧ NewRow w w' B 9 v (kcells ss) := by
  have hk := kcells_len ss
  refine (partStr_any (.slice ao n n) 0 n (kcells ss) w (h.rd (by omega)) (kcells_one ss) (by omega)).mono ?_
  rintro e w' ⟨v, rfl, hv⟩
  rw [show (max (0 : Int) 0).toNat = 0 by omega, List.drop_zero, List.take_of_length_le (by omega)] at hv
  rcases hv with hm | ⟨rfl, h0, rfl⟩
  · exact ⟨v, rfl, hm.row hB, hm.new, hm.below⟩
  · exact ⟨_, rfl, Or.inl ⟨rfl, h0⟩, (fun b hb => by cases hb), Below.refl _ _⟩

theorem cloneV (ao : Option Addr) (n B : Nat) (ss : List (ByteArray × Int)) (w : World) (h : RowAt w B 29 (.slice ao n n) (vcells ss)) (hB : B ≤ w.heap.size) (hn : n = ss.length) (hl : ss.length ≤ 137438953472) :
    Calls Try.prog 36 #[.slice ao n n, .int .i64 0, .int .i64 n] w fun e w' => ∃ v, e = .returned v ∧ NewRow w w' B 29 v (vcells ss) := by
  have hk := vcells_len ss
  refine (partU64_any (.slice ao n n) 0 n (vcells ss) w (h.rd (by omega)) (vcells_one ss) (by omega)).mono ?_
  rintro e w' ⟨v, rfl, hv⟩
  rw [show (max (0 : Int) 0).toNat = 0 by omega, List.drop_zero, List.take_of_length_le (by omega)] at hv
  rcases hv with hm | ⟨rfl, h0, rfl⟩
  · exact ⟨v, rfl, hm.row hB, hm.new, hm.below⟩
  · exact ⟨_, rfl, Or.inl ⟨rfl, h0⟩, (fun b hb => by cases hb), Below.refl _ _⟩

/-- Another map that has the same, in memory that was not there. -/
def CloneGives (w w' : World) (e : Ending) (B : Nat) (ss : List (ByteArray × Int)) : Prop :=
  ∃ g kv vv, e = .returned (.pointer (some ⟨g, 0, none⟩)) ∧ MapAt w' B g kv vv ss ∧ w.heap.size ≤ g ∧ (∀ b, kv.ownBlock = some b → w.heap.size ≤ b) ∧ (∀ b, vv.ownBlock = some b → w.heap.size ≤ b) ∧ Below w.heap.size w w'

theorem clone_end {w w1 w2 : World} {B : Nat} {ks vs : Value} {ss : List (ByteArray × Int)} (h1 : RowAt w1 B 9 ks (kcells ss)) (n1 : ∀ b, ks.ownBlock = some b → w.heap.size ≤ b) (h2 : RowAt w1 B 29 vs (vcells ss)) (n2 : ∀ b, vs.ownBlock = some b → w.heap.size ≤ b) (hb : Below w.heap.size w w1) (hB : B ≤ w.heap.size) (h3 : w2 = w1.alloc (.cells #[ks, vs] 52)) :
    CloneGives w w2 (.returned (.pointer (some ⟨w1.heap.size, 0, none⟩))) B ss := by
  subst h3
  have hk : Keep (fun _ => False) w1 (w1.alloc (.cells #[ks, vs] 52)) := Keep.of_below (one_alloc w1 _).2 _
  refine ⟨_, ks, vs, rfl, ⟨heap_alloc_new _ _, Nat.le_trans hB hb.size, h1.keep hk (fun _ _ h => h), h2.keep hk (fun _ _ h => h)⟩, hb.size, n1, n2, hb.alloc hb.size _⟩

set_option maxHeartbeats 8000000 in
set_option maxRecDepth 100000 in
theorem mclone_any (B g : Nat) (kv vv : Value) (ss : List (ByteArray × Int)) (w : World) (hm : MapAt w B g kv vv ss) (hl : ss.length ≤ 137438953472) (hB : B ≤ w.heap.size) :
    Calls Try.prog 19 #[.pointer (some ⟨g, 0, none⟩)] w fun e w' => CloneGives w w' e B ss := by
  have HM := Lib.hid hm
  have HBW := Lib.hid hB
  obtain ⟨ao, hkv⟩ := hm.len
  subst hkv
  obtain ⟨bo, hvv⟩ := hm.vs.open
  rw [vcells_len] at hvv
  subst hvv
  have c0 := hm.c0
  have c1 := hm.c1
  obtain ⟨n, hL⟩ : ∃ n, n = ss.length := ⟨_, rfl⟩
  have hcell : ∀ W, Below w.heap.size w W → W.cell? ⟨g, 0, none⟩ = w.cell? ⟨g, 0, none⟩ ∧ W.cell? ⟨g, 1, none⟩ = w.cell? ⟨g, 1, none⟩ ∧ Below w.heap.size w W := fun W h => ⟨h.cell (p := ⟨g, 0, none⟩) (lt_of_block hm.blk), h.cell (p := ⟨g, 1, none⟩) (lt_of_block hm.blk), h⟩
  rw [← hL] at c0 c1
  rw [c0, c1] at hcell
  have HK : Hid (∀ W, (W.cell? ⟨g, 0, none⟩ = some (.slice ao n n) ∧ W.cell? ⟨g, 1, none⟩ = some (.slice bo n n) ∧ Below w.heap.size w W) → Calls Try.prog 35 #[.slice ao n n, .int .i64 0, .int .i64 n] W fun e w' => ∃ v, e = .returned v ∧ NewRow W w' B 9 v (kcells ss) ∧ w'.cell? ⟨g, 0, none⟩ = some (.slice ao n n) ∧ w'.cell? ⟨g, 1, none⟩ = some (.slice bo n n) ∧ Below w.heap.size w w') := Lib.hid (fun W h => (cloneK _ n B ss W (by rw [hL]; exact (hm.keepB h.2.2).ks) (Nat.le_trans hB h.2.2.size) hL hl).mono (fun e w' ⟨v, h1, h2⟩ => ⟨v, h1, h2, hcell w' (h.2.2.trans (h2.below.mono h.2.2.size))⟩))
  have HV : Hid (∀ W, (W.cell? ⟨g, 0, none⟩ = some (.slice ao n n) ∧ W.cell? ⟨g, 1, none⟩ = some (.slice bo n n) ∧ Below w.heap.size w W) → Calls Try.prog 36 #[.slice bo n n, .int .i64 0, .int .i64 n] W fun e w' => ∃ v, e = .returned v ∧ NewRow W w' B 29 v (vcells ss) ∧ w'.cell? ⟨g, 0, none⟩ = some (.slice ao n n) ∧ w'.cell? ⟨g, 1, none⟩ = some (.slice bo n n) ∧ Below w.heap.size w w') := Lib.hid (fun W h => (cloneV _ n B ss W (by rw [hL]; exact (hm.keepB h.2.2).vs) (Nat.le_trans hB h.2.2.size) hL hl).mono (fun e w' ⟨v, h1, h2⟩ => ⟨v, h1, h2, hcell w' (h.2.2.trans (h2.below.mono h.2.2.size))⟩))
  rw [← hL] at HM
  have HCELL := Lib.hid hcell
  have HLN := Lib.hid hL
  clear hm hB hl hcell hL
  go_enter Try.func19, Try.ntmps19
  go_wp2
  have hS0 : w.drew.cell? ⟨g, 0, none⟩ = some (.slice ao n n) ∧ w.drew.cell? ⟨g, 1, none⟩ = some (.slice bo n n) ∧ Below w.heap.size w w.drew := ⟨c0, c1, (Below.refl _ _).drew⟩
  go_region_held_law (fun w' => w'.cell? ⟨g, 0, none⟩ = some (.slice ao n n) ∧ w'.cell? ⟨g, 1, none⟩ = some (.slice bo n n) ∧ Below w.heap.size w w') (first | exact hS0 | exact hS1 | exact hS2 | exact HCELL.out _ (hS2.2.2.alloc hS2.2.2.size _) | exact HCELL.out _ (hS1.2.2.alloc hS1.2.2.size _) | assumption)
    (first | (go_at_call 35; refine (HK.out _ (by assumption)).mono ?_; rintro e w5 ⟨kv5, rfl, hn5, hS1⟩; obtain ⟨ko5, rfl⟩ := hn5.open) | (go_at_call 36; refine (HV.out _ (by assumption)).mono ?_; rintro e w6 ⟨vv6, rfl, hn6, hS2⟩; obtain ⟨vo6, rfl⟩ := hn6.open))
  go_wp2
  go_ret
  exact clone_end (hn5.row.keep (Keep.of_below hn6.below (fun _ => False)) (fun _ _ h => h)) (fun b hb => hn5.new b hb) hn6.row (fun b hb => Nat.le_trans hS1.2.2.size (hn6.new b hb)) hS2.2.2 HBW.out rfl

theorem mclone_nil (w : World) : Calls Try.prog 19 #[.pointer none] w fun e w' => e = .returned (.pointer none) ∧ w = w' := by
  go_enter Try.func19, Try.ntmps19
  go_wp2
  go_ret
  exact ⟨rfl, rfl⟩
end Go.Proofs.Ytpdcmgillinooaa
