/- The law's own lives: the chapter's example. Condition: the table of names. -/
import Derived.Test.YtmkglaghnjnooaaDoorOpList
namespace Go.Proofs.YtmkglaghnjnooaaDoor
open Go.RowKit

theorem pen_new (w : World) : Pen (w.alloc (.cells #[.slice none 0 0] 35)) w.heap.size w.heap.size [] :=
  ⟨_, heap_alloc_new _ _, World.ownsRow_nil _ _ _ _, by simp [Value.ownBlock], Nat.le_refl _⟩
theorem conv_own {w : World} {B : Nat} {v : Value} {l : List UInt8} (h : w.ownsRow B 5 1 v l.length (Lib.byteCells l)) : (convert 33 9 v).run Tryd.prog w = .ok (.string ⟨l.toArray⟩) w := by
  rcases h.2 with ⟨rfl, hn⟩ | ⟨g, cap, cur, rfl, _⟩
  · have : l = [] := List.eq_nil_of_length_eq_zero hn
    subst this
    have := run_convert_bytes_string (P := Tryd.prog) w 33 9 5 none 0 0 Tryd.underlying33 Tryd.underlying5 Tryd.underlying9
    rw [this]
    rfl
  · refine run_convert_bytes_back (P := Tryd.prog) w 33 9 5 ⟨g, 0, none⟩ cap l Tryd.underlying33 Tryd.underlying5 Tryd.underlying9 (fun j hj => ?_)
    exact h.cells (g := g) rfl j _ (by simp [Lib.byteCells, hj])
theorem Eye.keep {w w' : World} {eb : Nat} {bs : List UInt8} {f : Int} (h : Eye w eb bs f) (hb : Below w.heap.size w w') : Eye w' eb bs f := by
  obtain ⟨v, h1, ao, c, h2, h3, h4, h5⟩ := h
  refine ⟨v, by rw [hb.block eb (lt_of_block h1)]; exact h1, ao, c, h2, h3, h4, fun hne => ?_⟩
  obtain ⟨g, o, e, hg, hc⟩ := h5 hne
  exact ⟨g, o, e, hg, fun j hj => (hb.cell (p := ⟨g, o + j, none⟩) (World.block_lt_of_cell? w _ (hc j hj))).trans (hc j hj)⟩

theorem livesX_at (w : World) : Ops (w.alloc (.cells #[.int .i64 1, .string ⟨#[97]⟩, .string ⟨#[]⟩, .int .u64 7, .int .i64 0, .int .i64 10, .string ⟨#[97]⟩, .string ⟨#[98]⟩, .int .u64 0, .int .i64 5] 24)) (w.heap.size + 1) (some ⟨w.heap.size, 0, none⟩) 2 livesX := by
  intro i hi
  refine ⟨w.heap.size, 0, rfl, by omega, fun j v hv => ?_⟩
  match i, hi with
  | 0, _ =>
    match j, hv with
    | 0, hv => exact (World.cell?_alloc_new _ _ _ _).trans hv
    | 1, hv => exact (World.cell?_alloc_new _ _ _ _).trans hv
    | 2, hv => exact (World.cell?_alloc_new _ _ _ _).trans hv
    | 3, hv => exact (World.cell?_alloc_new _ _ _ _).trans hv
    | 4, hv => exact (World.cell?_alloc_new _ _ _ _).trans hv
    | (n + 5), hv => simp [OpV.vals] at hv
  | 1, _ =>
    match j, hv with
    | 0, hv => exact (World.cell?_alloc_new _ _ _ _).trans hv
    | 1, hv => exact (World.cell?_alloc_new _ _ _ _).trans hv
    | 2, hv => exact (World.cell?_alloc_new _ _ _ _).trans hv
    | 3, hv => exact (World.cell?_alloc_new _ _ _ _).trans hv
    | 4, hv => exact (World.cell?_alloc_new _ _ _ _).trans hv
    | (n + 5), hv => simp [OpV.vals] at hv
theorem livesX_ok : (∀ i, i < 2 → (livesX i).ok) ∧ (∀ i, i < 2 → (livesX i).short) := by
  constructor
  · intro i _
    unfold livesX
    split
    · exact ⟨by show 7 < _; omega, by show 1 ≤ _; omega, by show 0 ≤ _; omega⟩
    · exact ⟨by show 0 < _; omega, by show 1 ≤ _; omega, by show 1 ≤ _; omega⟩
  · intro i _
    unfold livesX
    split
    · exact ⟨by show 1 ≤ 200; omega, by show 0 ≤ 200; omega⟩
    · exact ⟨by show 1 ≤ 200; omega, by show 1 ≤ 200; omega⟩

set_option maxHeartbeats 3200000 in
set_option maxRecDepth 100000 in
theorem lives16 (w : World) (ht : NamesAt w) : Calls Tryd.prog 7 #[] w fun e w' => e = .returned (.bool true) ∧ Below w.heap.size w w' := by
  have hp0 := pen_new w
  obtain ⟨W1, hW1⟩ : ∃ W, W = w.alloc (.cells #[.slice none 0 0] 35) := ⟨_, rfl⟩
  have hb1 : Below w.heap.size w W1 := by rw [hW1]; exact boxed_below _ _
  have hs1 : W1.heap.size = w.heap.size + 1 := by rw [hW1, World.size_alloc]
  rw [← hW1] at hp0
  have hx := livesX_at W1
  have hp1 := hp0.alloc (.cells #[.int .i64 1, .string ⟨#[97]⟩, .string ⟨#[]⟩, .int .u64 7, .int .i64 0, .int .i64 10, .string ⟨#[97]⟩, .string ⟨#[98]⟩, .int .u64 0, .int .i64 5] 24)
  have hb2 := hb1.alloc hb1.size (.cells #[.int .i64 1, .string ⟨#[97]⟩, .string ⟨#[]⟩, .int .u64 7, .int .i64 0, .int .i64 10, .string ⟨#[97]⟩, .string ⟨#[98]⟩, .int .u64 0, .int .i64 5] 24)
  obtain ⟨W2, hW2⟩ : ∃ W, W = W1.alloc (.cells #[.int .i64 1, .string ⟨#[97]⟩, .string ⟨#[]⟩, .int .u64 7, .int .i64 0, .int .i64 10, .string ⟨#[97]⟩, .string ⟨#[98]⟩, .int .u64 0, .int .i64 5] 24) := ⟨_, rfl⟩
  have hs2 : W2.heap.size = w.heap.size + 2 := by rw [hW2, World.size_alloc, hs1]
  rw [← hW2] at hx hp1 hb2
  have hrow : ∀ g, penRow W2 w.heap.size = some g → g < W1.heap.size := by
    intro g hg
    rw [hW2, penRow_under hp0 (boxed_below _ _)] at hg
    exact (hp0.row g hg).2.1
  have HW := Lib.hid (opWriteL_any w.heap.size w.heap.size (some ⟨W1.heap.size, 0, none⟩) 2 2 livesX [] W2 (by rw [hs2]; rw [hs1] at hx ⊢; exact hx) livesX_ok.1 livesX_ok.2 (by omega) (by simp) hp1 (by omega) (fun _ b off e => by
    injection e with e; injection e with e _ _
    subst e
    exact ⟨by omega, fun e2 => absurd (hrow _ e2.symm) (Nat.lt_irrefl _)⟩))
  rw [List.nil_append, livesX_bytes] at HW
  have HW1 := Lib.hid hW1
  have HW2 := Lib.hid hW2
  have HP2 := Lib.hid hp1
  have HB2 := Lib.hid hb2
  have HT := Lib.hid ht
  have hpen2 : w.heap.size ≤ W2.heap.size := by omega
  clear hp0 hb1 hx hp1 hb2 hrow hW1 hW2 ht hs1 hs2
  go_enter Tryd.func7, Tryd.ntmps7
  go_upto_region 2 with fail
  rw [← HW1.out]
  go_wp2_with fail
  rw [← HW2.out]
  refine HW.out.mono ?_
  rintro e w3 ⟨rfl, hd⟩
  have hp3 := hd.1
  have hb3 : Below w.heap.size w w3 := HB2.out.trans (hd.2.below HP2.out hpen2)
  clear hd HW HW2 HW1
  go_wp2_with fail
  refine (penBytes_any _ _ _ _ (by simp) hp3).mono ?_
  rintro e w5 ⟨v, rfl, hown, hbel⟩
  have hcv := conv_own hown
  have HB5 : Hid (Below w.heap.size w w5) := Lib.hid (hb3.trans (hbel.mono hb3.size))
  obtain ⟨ao, c, rfl⟩ := own_slice hown
  have hcv2 : (convert 33 9 (.slice ao 9 c)).run Tryd.prog w5 = .ok (.string ⟨#[1, 1, 97, 10, 1, 97, 1, 98, 5]⟩) w5 := hcv
  clear hown hp3 hb3 hcv hbel
  have HNM := Lib.hid (opName_any 5 w5 (HT.out.below HB5.out))
  rw [show opNameS 5 = ⟨#[100, 114, 111, 112]⟩ by kernel_rfl] at HNM
  have HRD := Lib.hid (opReads_any 6 ⟨#[]⟩ ⟨#[]⟩ 0 0 w5 (by decide) (by decide))
  rw [show opReadsB 6 ⟨#[]⟩ ⟨#[]⟩ 0 = true by kernel_rfl] at HRD
  go_wp2_with fail
  refine HNM.out.mono ?_
  rintro e w6 ⟨rfl, h6⟩
  rw [← h6]
  clear h6
  go_wp2_with fail
  refine HRD.out.mono ?_
  rintro e w7 ⟨rfl, hb7⟩
  go_wp2
  go_ret
  exact ⟨rfl, HB5.out.trans (hb7.mono HB5.out.size)⟩
end Go.Proofs.YtmkglaghnjnooaaDoor
