/- The law RefGates, walked. No condition but that words are words. -/
import Derived.Test.YtjkfecfldnhfiaaRefLives
namespace Go.Proofs.Ytjkfecfldnhfiaa
open Go.RowKit

/-- A gate in a block of its own. -/
def Gt3 (w : World) (g : Nat) (t : TypeId) (a b : Int) (c : Nat) : Prop := w.heap[g]? = some (.cells #[.int .i64 a, .int .i64 b, .int .u64 c] t (0, 0))
section
variable {w w' : World} {g i : Nat} {t : TypeId} {a b : Int} {c : Nat}
theorem Gt3.lt (h : Gt3 w g t a b c) : g < w.heap.size := lt_of_block h
theorem Gt3.c0 (h : Gt3 w g t a b c) : w.cell? ⟨g, 0, none⟩ = some (.int .i64 a) := by unfold Gt3 at h; simp [World.cell?, h]
theorem Gt3.c1 (h : Gt3 w g t a b c) : w.cell? ⟨g, 1, none⟩ = some (.int .i64 b) := by unfold Gt3 at h; simp [World.cell?, h]
theorem Gt3.c2 (h : Gt3 w g t a b c) : w.cell? ⟨g, 2, none⟩ = some (.int .u64 c) := by unfold Gt3 at h; simp [World.cell?, h]
theorem Gt3.f (h : Gt3 w g t a b c) : w.frozen? ⟨g, i, none⟩ = false := by unfold Gt3 at h; simp [World.frozen?, h]
theorem Gt3.alloc (w : World) (t : TypeId) (a b : Int) (c : Nat) : Gt3 (w.alloc (.cells #[.int .i64 a, .int .i64 b, .int .u64 c] t)) w.heap.size t a b c := heap_alloc_new _ _
theorem Gt3.keep (h : Gt3 w g t a b c) (hb : Below w.heap.size w w') : Gt3 w' g t a b c := by
  unfold Gt3 at *
  rw [hb.block g (lt_of_block h)]
  exact h
theorem Gt3.drew (h : Gt3 w g t a b c) : Gt3 w.drew g t a b c := h
end

set_option maxHeartbeats 4000000 in
set_option maxRecDepth 100000 in
theorem gates_any (s t : Int) (r w : Nat) (hs : -9223372036854775808 ≤ s ∧ s ≤ 9223372036854775807) (ht : -9223372036854775808 ≤ t ∧ t ≤ 9223372036854775807) (hr : r < 18446744073709551616) (hw : w < 18446744073709551616) (W : World) :
    Calls Try.prog 4 #[.agg #[.int .i64 s, .int .i64 t, .int .u64 r], .int .u64 w] W fun e W' => e = .returned (.bool true) ∧ Below W.heap.size W W' := by
  have hG := gated_any w hw
  have hD := dgated_any w hw
  have hS := shut_any s t r hs ht hr
  have hE := dshut_any s t r hr
  unfold GateGives at hG hD
  generalize gatedS w = a1 at *
  generalize gatedT w = a2 at *
  generalize gatedW w = a3 at *
  generalize gatedOk w = a4 at *
  generalize shutW s t r = b1 at *
  have HG := Lib.hid hG
  have HD := Lib.hid hD
  have HS := Lib.hid hS
  have HE := Lib.hid hE
  have HL := Lib.hid rlives_any
  have f0 := Gt3.alloc W 29 s t r
  have HF0 := Lib.hid f0
  have HB0 := Lib.hid (gate_below W (.cells #[.int .i64 s, .int .i64 t, .int .u64 r] 29))
  clear hG hD hS hE f0 hs ht hr hw
  go_enter Try.func4, Try.ntmps4
  go_wp2_with fail
  refine (HG.out _).mono ?_
  rintro e w1 ⟨rfl, hb1⟩
  have HF1 := Lib.hid (HF0.out.keep hb1)
  have HB1 := Lib.hid (go_on HB0.out hb1)
  clear hb1
  have g1 := Gt3.alloc w1 30 a1 a2 a3
  have hb1 := gate_below w1 (.cells #[.int .i64 (a1 : Nat), .int .i64 (a2 : Nat), .int .u64 (a3 : Nat)] 30)
  have HG1 := Lib.hid g1
  have HF2 := Lib.hid (HF1.out.keep hb1)
  have HB2 := Lib.hid (go_on HB1.out hb1)
  clear g1 hb1
  go_wp2_with fail
  refine (HD.out _).mono ?_
  rintro e w2 ⟨rfl, hb2⟩
  obtain ⟨W3, hW3⟩ : ∃ W3, W3 = w2.alloc (.cells #[.int .i64 (a1 : Nat), .int .i64 (a2 : Nat), .int .u64 (a3 : Nat)] 29) := ⟨_, rfl⟩
  have hb3 : Below w2.heap.size w2 W3 := by rw [hW3]; exact gate_below _ _
  have k0 := (HF2.out.keep hb2).keep hb3
  have k1 := (HG1.out.keep hb2).keep hb3
  have k2 : Gt3 W3 w2.heap.size 29 a1 a2 a3 := by rw [hW3]; exact Gt3.alloc _ _ _ _ _
  have HB3 := Lib.hid (go_on (go_on HB2.out hb2) hb3)
  have HC : Hid (∀ V, Below W3.heap.size W3 V → ((V.cell? ⟨W.heap.size, 0, none⟩ = some (.int .i64 s) ∧ V.cell? ⟨W.heap.size, 1, none⟩ = some (.int .i64 t) ∧ V.cell? ⟨W.heap.size, 2, none⟩ = some (.int .u64 (r : Nat))) ∧ (V.cell? ⟨w1.heap.size, 0, none⟩ = some (.int .i64 (a1 : Nat)) ∧ V.cell? ⟨w1.heap.size, 1, none⟩ = some (.int .i64 (a2 : Nat)) ∧ V.cell? ⟨w1.heap.size, 2, none⟩ = some (.int .u64 (a3 : Nat))) ∧ (V.cell? ⟨w2.heap.size, 0, none⟩ = some (.int .i64 (a1 : Nat)) ∧ V.cell? ⟨w2.heap.size, 1, none⟩ = some (.int .i64 (a2 : Nat)) ∧ V.cell? ⟨w2.heap.size, 2, none⟩ = some (.int .u64 (a3 : Nat)))) ∧ Below W3.heap.size W3 V) := Lib.hid (fun V h => ⟨⟨⟨(k0.keep h).c0, (k0.keep h).c1, (k0.keep h).c2⟩, ⟨(k1.keep h).c0, (k1.keep h).c1, (k1.keep h).c2⟩, (k2.keep h).c0, (k2.keep h).c1, (k2.keep h).c2⟩, h⟩)
  have HW3 := Lib.hid hW3
  have hS0 := HC.out W3.drew (Below.refl _ _).drew
  clear hb2 hb3 k0 k1 k2 hW3
  go_wp2
  rw [← HW3.out]
  go_region_held_law (fun V => ((V.cell? ⟨W.heap.size, 0, none⟩ = some (.int .i64 s) ∧ V.cell? ⟨W.heap.size, 1, none⟩ = some (.int .i64 t) ∧ V.cell? ⟨W.heap.size, 2, none⟩ = some (.int .u64 (r : Nat))) ∧ (V.cell? ⟨w1.heap.size, 0, none⟩ = some (.int .i64 (a1 : Nat)) ∧ V.cell? ⟨w1.heap.size, 1, none⟩ = some (.int .i64 (a2 : Nat)) ∧ V.cell? ⟨w1.heap.size, 2, none⟩ = some (.int .u64 (a3 : Nat))) ∧ (V.cell? ⟨w2.heap.size, 0, none⟩ = some (.int .i64 (a1 : Nat)) ∧ V.cell? ⟨w2.heap.size, 1, none⟩ = some (.int .i64 (a2 : Nat)) ∧ V.cell? ⟨w2.heap.size, 2, none⟩ = some (.int .u64 (a3 : Nat)))) ∧ Below W3.heap.size W3 V)
    (first | (with_reducible exact hS0) | exact HC.out _ hA1 | exact HC.out _ hA2 | exact HC.out _ hA3 | assumption)
    (first
      | (go_at_call 19; (with_reducible refine (HS.out _).mono ?_); rintro e wa ⟨rfl, hb1⟩; have hA1 := (Below.refl W3.heap.size W3).drew.trans (hb1.mono (Nat.le_refl _)))
      | (go_at_call 20; (with_reducible refine (HE.out _).mono ?_); rintro e wb ⟨rfl, hb2⟩; have hA2 := hA1.trans (hb2.mono hA1.size))
      | (go_at_call 16; (with_reducible refine (HL.out _).mono ?_); rintro e wc ⟨rfl, hb3⟩; have hA3 := hA2.trans (hb3.mono hA2.size)))
  go_wp2
  go_ret
  exact ⟨rfl, HB3.out.trans (hA3.mono HB3.out.size)⟩
end Go.Proofs.Ytjkfecfldnhfiaa
