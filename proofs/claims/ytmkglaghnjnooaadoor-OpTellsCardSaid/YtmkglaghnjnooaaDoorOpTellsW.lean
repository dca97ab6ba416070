/- The law OpTells, walked: it returns true; nothing that was there has turned. Conditions: an operation as it is read; the table of names. -/
import Derived.Test.YtmkglaghnjnooaaDoorOpLives
namespace Go.Proofs.YtmkglaghnjnooaaDoor
open Go.RowKit

theorem below_onO {B : Nat} {w V V' : World} (h : Below B w V) (hB : B ≤ w.heap.size) (hb : Below V.heap.size V V') : Below B w V' := h.trans (hb.mono (Nat.le_trans hB h.size))

set_option maxHeartbeats 8000000 in
set_option maxRecDepth 100000 in
theorem opTells_any (k : Int) (key tx : ByteArray) (v : Nat) (lim : Int) (w : World) (hv : v < 18446744073709551616) (hk : key.size ≤ 9223372036854775807) (ht : tx.size ≤ 9223372036854775807) (hnt : NamesAt w) :
    Calls Tryd.prog 3 #[.agg #[.int .i64 k, .string key, .string tx, .int .u64 (v : Nat), .int .i64 lim]] w fun e w' => e = .returned (.bool true) ∧ Below w.heap.size w w' := by
  have n0 := BX.new w 24 #[.int .i64 k, .string key, .string tx, .int .u64 (v : Nat), .int .i64 lim]
  have hx1 := boxed_below w (.cells #[.int .i64 k, .string key, .string tx, .int .u64 (v : Nat), .int .i64 lim] 24)
  obtain ⟨W1, hW1⟩ : ∃ W, W = w.alloc (.cells #[.int .i64 k, .string key, .string tx, .int .u64 (v : Nat), .int .i64 lim] 24) := ⟨_, rfl⟩
  rw [← hW1] at n0 hx1
  have hx2 := boxed_below W1 (.cells #[.int .i64 k, .string key, .string tx, .int .u64 (v : Nat), .int .i64 lim] 24)
  have hop : Ops (W1.alloc (.cells #[.int .i64 k, .string key, .string tx, .int .u64 (v : Nat), .int .i64 lim] 24)) (W1.heap.size + 1) (some ⟨W1.heap.size, 0, none⟩) 1 (fun _ => ⟨k, key, tx, v, lim⟩) := by
    intro i hi
    obtain rfl : i = 0 := by omega
    refine ⟨W1.heap.size, 0, rfl, by omega, fun j u hu => ?_⟩
    match j, hu with
    | 0, hu => exact (World.cell?_alloc_new _ _ _ _).trans hu
    | 1, hu => exact (World.cell?_alloc_new _ _ _ _).trans hu
    | 2, hu => exact (World.cell?_alloc_new _ _ _ _).trans hu
    | 3, hu => exact (World.cell?_alloc_new _ _ _ _).trans hu
    | 4, hu => exact (World.cell?_alloc_new _ _ _ _).trans hu
    | (n + 5), hu => simp [OpV.vals] at hu
  obtain ⟨W2, hW2⟩ : ∃ W, W = W1.alloc (.cells #[.int .i64 k, .string key, .string tx, .int .u64 (v : Nat), .int .i64 lim] 24) := ⟨_, rfl⟩
  have hsz2 : W2.heap.size = W1.heap.size + 1 := by rw [hW2, World.size_alloc]
  rw [← hW2] at hx2 hop
  have HLI := Lib.hid (olight_any (some ⟨W1.heap.size, 0, none⟩) 1 1 (fun _ => ⟨k, key, tx, v, lim⟩) W2 (by rw [hsz2]; exact hop) (fun _ _ => ⟨hv, hk, ht⟩) (by omega))
  have HB2 : Hid (Below w.heap.size w W2) := Lib.hid (hx1.trans (hx2.mono hx1.size))
  have HN2 := Lib.hid (n0.below hx2)
  have HW1 := Lib.hid hW1
  have HW2 := Lib.hid hW2
  have HNT := Lib.hid hnt
  have c0 : W1.cell? ⟨w.heap.size, 0, none⟩ = some (.int .i64 k) := n0.cell 0 rfl
  have c1 : W1.cell? ⟨w.heap.size, 1, none⟩ = some (.string key) := n0.cell 1 rfl
  have c2 : W1.cell? ⟨w.heap.size, 2, none⟩ = some (.string tx) := n0.cell 2 rfl
  have c3 : W1.cell? ⟨w.heap.size, 3, none⟩ = some (.int .u64 (v : Nat)) := n0.cell 3 rfl
  have c4 : W1.cell? ⟨w.heap.size, 4, none⟩ = some (.int .i64 lim) := n0.cell 4 rfl
  clear n0 hx1 hx2 hop hW1 hW2 hsz2 hnt hk ht
  go_enter Tryd.func3, Tryd.ntmps3
  go_upto_region 1 with fail
  rw [← HW1.out]
  go_wp2_with fail
  rw [← HW2.out]
  refine HLI.out.mono ?_
  rintro e w3 ⟨lb, rfl, hlb, hb3⟩
  have HB3 : Hid (Below w.heap.size w w3) := Lib.hid (HB2.out.trans (hb3.mono HB2.out.size))
  have HN3 := Lib.hid (HN2.out.below hb3)
  clear HLI HW1 HW2 hb3 c0 c1 c2 c3 c4
  cases lb with
  | false =>
    have HLV := Lib.hid (lives16 w3 (HNT.out.below HB3.out))
    go_wp2_with fail
    refine HLV.out.mono ?_
    rintro e w4 ⟨rfl, hb4⟩
    go_wp2
    go_ret
    exact ⟨rfl, HB3.out.trans (hb4.mono HB3.out.size)⟩
  | true =>
  have hsh := (hlb rfl).1 0 (by omega)
  have h2 : key.size ≤ 140737488355328 := by have := hsh.1; simp only at this; omega
  have h1 : tx.size ≤ 140737488355328 := by have := hsh.2; simp only at this; omega
  have HC := Lib.hid (fun W => opCheck_any k key tx v lim W h1 h2)
  have HSD := Lib.hid (fun W => rsound_any k key tx v lim W h1 h2)
  have HPL := Lib.hid (fun W => opPlain_any k key tx v lim W)
  have HRP := Lib.hid (fun W => rplain_any k key tx v lim W)
  have HRD := Lib.hid (fun W => opReads_any k key tx v lim W h1 h2)
  have HRR := Lib.hid (fun W => rreads_any k key tx v lim W h1 h2)
  have HRN := Lib.hid (fun W => rname_any k W)
  unfold opPlainV at HPL HRP
  clear hlb hsh h1 h2
  generalize (if usI k = true then k else 0) = p0 at *
  generalize (if usK k = true then key else (⟨#[]⟩ : ByteArray)) = p1 at *
  generalize (if usT k = true then tx else (⟨#[]⟩ : ByteArray)) = p2 at *
  generalize (if usV k = true then (v : Int) else 0) = p3 at *
  generalize (if usT k = true then lim else 0) = p4 at *
  generalize opReadsB k key tx lim = rd at *
  generalize opSoundB k key tx lim = sd at *
  have c0 : w3.cell? ⟨w.heap.size, 0, none⟩ = some (.int .i64 k) := HN3.out.cell 0 rfl
  have c1 : w3.cell? ⟨w.heap.size, 1, none⟩ = some (.string key) := HN3.out.cell 1 rfl
  have c2 : w3.cell? ⟨w.heap.size, 2, none⟩ = some (.string tx) := HN3.out.cell 2 rfl
  have c3 : w3.cell? ⟨w.heap.size, 3, none⟩ = some (.int .u64 (v : Nat)) := HN3.out.cell 3 rfl
  have c4 : w3.cell? ⟨w.heap.size, 4, none⟩ = some (.int .i64 lim) := HN3.out.cell 4 rfl
  go_wp2_with fail
  refine (HC.out _).mono ?_
  rintro e w4 ⟨rfl, hb4⟩
  have HB4 : Hid (Below w.heap.size w w4) := Lib.hid (HB3.out.trans (hb4.mono HB3.out.size))
  have HN4 := Lib.hid (HN3.out.below hb4)
  clear hb4 c0 c1 c2 c3 c4 HC
  have HNM := Lib.hid (fun W (h : Below w4.heap.size w4 W) => opName_any k W (HNT.out.below (HB4.out.trans (h.mono HB4.out.size))))
  have HLV := Lib.hid (fun W (h : Below w4.heap.size w4 W) => lives16 W (HNT.out.below (HB4.out.trans (h.mono HB4.out.size))))
  generalize opNameS k = nm at *
  have HCC : Hid (∀ V, Below w4.heap.size w4 V → (V.cell? ⟨w.heap.size, 0, none⟩ = some (.int .i64 k) ∧ V.cell? ⟨w.heap.size, 1, none⟩ = some (.string key) ∧ V.cell? ⟨w.heap.size, 2, none⟩ = some (.string tx) ∧ V.cell? ⟨w.heap.size, 3, none⟩ = some (.int .u64 (v : Nat)) ∧ V.cell? ⟨w.heap.size, 4, none⟩ = some (.int .i64 lim)) ∧ Below w4.heap.size w4 V) := Lib.hid (fun V hb => by
    have kA : BX V w.heap.size 24 #[.int .i64 k, .string key, .string tx, .int .u64 (v : Nat), .int .i64 lim] := HN4.out.below hb
    exact ⟨⟨kA.cell 0 rfl, kA.cell 1 rfl, kA.cell 2 rfl, kA.cell 3 rfl, kA.cell 4 rfl⟩, hb⟩)
  cases sd
  all_goals
    go_upto_region 4 with fail
    have hS0 := HCC.out w4.drew (Below.refl _ _).drew
    first | (go_region_held_law (fun V => (V.cell? ⟨w.heap.size, 0, none⟩ = some (.int .i64 k) ∧ V.cell? ⟨w.heap.size, 1, none⟩ = some (.string key) ∧ V.cell? ⟨w.heap.size, 2, none⟩ = some (.string tx) ∧ V.cell? ⟨w.heap.size, 3, none⟩ = some (.int .u64 (v : Nat)) ∧ V.cell? ⟨w.heap.size, 4, none⟩ = some (.int .i64 lim)) ∧ Below w4.heap.size w4 V)
      (first | (with_reducible exact hS0) | (with_reducible assumption))
      (first
        | (go_at_call 9; (with_reducible refine (HSD.out _).mono ?_); rintro e w5 ⟨rfl, hb5⟩; have hS5 := HCC.out _ (below_onO (And.right (by assumption)) (Nat.le_refl _) hb5); clear hb5)
        | (go_at_call 10; (with_reducible refine (HPL.out _).mono ?_); rintro e w6 ⟨rfl, hb6⟩; have hS6 := HCC.out _ (below_onO (And.right (by assumption)) (Nat.le_refl _) hb6); clear hb6)
        | (go_at_call 11; (with_reducible refine (HRP.out _).mono ?_); rintro e w7 ⟨rfl, hb7⟩; have hS7 := HCC.out _ (below_onO (And.right (by assumption)) (Nat.le_refl _) hb7); clear hb7)
        | (go_at_call 12; (with_reducible refine (HRD.out _).mono ?_); rintro e w8 ⟨rfl, hb8⟩; have hS8 := HCC.out _ (below_onO (And.right (by assumption)) (Nat.le_refl _) hb8); clear hb8)
        | (go_at_call 13; (with_reducible refine (HRR.out _).mono ?_); rintro e w9 ⟨rfl, hb9⟩; have hS9 := HCC.out _ (below_onO (And.right (by assumption)) (Nat.le_refl _) hb9); clear hb9)
        | (go_at_call 14; (with_reducible refine (HNM.out _ (And.right (by assumption))).mono ?_); rintro e w10 ⟨rfl, h10⟩; rw [← h10]; clear h10)
        | (go_at_call 15; (with_reducible refine (HRN.out _).mono ?_); rintro e w11 ⟨rfl, hb11⟩; have hS11 := HCC.out _ (below_onO (And.right (by assumption)) (Nat.le_refl _) hb11); clear hb11)
        | (go_at_call 7; (with_reducible refine (HLV.out _ (And.right (by assumption))).mono ?_); rintro e w12 ⟨rfl, hb12⟩; have hB12 : Below w4.heap.size w4 w12 := below_onO (And.right (by assumption)) (Nat.le_refl _) hb12; have hS12 := HCC.out _ hB12; clear hb12))) | fail
    all_goals
      go_wp2
      go_ret
      exact ⟨rfl, HB4.out.trans (hB12.mono HB4.out.size)⟩
end Go.Proofs.YtmkglaghnjnooaaDoor
