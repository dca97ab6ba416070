/- box.Same, box.sameRows: are two boxes the same? Condition: at most 2^30 boxes. -/
import Derived.Test.YtbghemndcndhpaaDoorBoxLaw
import Derived.Deep.RegionHeldLaw
namespace Go.Proofs.YtbghemndcndhpaaDoor
open Go.RowKit

/-- It is told whether it is so. -/
def Says (w w' : World) (e : Ending) (p : Prop) : Prop := ∃ r : Bool, e = .returned (.bool r) ∧ (r = true ↔ p) ∧ Below w.heap.size w w'

def SameOk (a : Bx) : Prop := ∀ (b : Bx) (S T : Nat → Prop) (va vb : Value) (w : World), BoxIs S w a va → BoxIs T w b vb → wB a ≤ 1073741824 → wB b ≤ 1073741824 →
  Calls Tryd.prog 21 #[.agg #[va], .agg #[vb]] w fun e w' => Says w w' e (a = b)

set_option maxHeartbeats 8000000 in
set_option maxRecDepth 100000 in
theorem sameRows_any (l1 l2 : List Bx) (ih : ∀ x ∈ l1, SameOk x) (S T : Nat → Prop) (g1 g2 : Nat) (w : World) (h1 : BoxL S w g1 0 l1) (h2 : BoxL T w g2 0 l2) (hw1 : wL l1 ≤ 1073741824) (hw2 : wL l2 ≤ 1073741824) :
    Calls Tryd.prog 33 #[.slice (some ⟨g1, 0, none⟩) l1.length l1.length, .slice (some ⟨g2, 0, none⟩) l2.length l2.length] w fun e w' => Says w w' e (l1 = l2) := by
  have hl1 := wL_len l1
  have hl2 := wL_len l2
  obtain ⟨n1, hn1⟩ : ∃ n1, n1 = l1.length := ⟨_, rfl⟩
  obtain ⟨n2, hn2⟩ : ∃ n2, n2 = l2.length := ⟨_, rfl⟩
  rw [← hn1, ← hn2]
  have hb1 : n1 ≤ 1073741824 := by omega
  have hb2 : n2 ≤ 1073741824 := by omega
  have HN1 := Lib.hid hn1
  have HN2 := Lib.hid hn2
  have H1 := Lib.hid h1
  have H2 := Lib.hid h2
  have HIH := Lib.hid ih
  have HW1 := Lib.hid (show ∀ b ∈ l1, wB b ≤ 1073741824 from fun b hb => by have := wL_mem hb; omega)
  have HW2 := Lib.hid (show ∀ b ∈ l2, wB b ≤ 1073741824 from fun b hb => by have := wL_mem hb; omega)
  clear hn1 hn2 h1 h2 ih hw1 hw2 hl1 hl2
  by_cases hne : n1 = n2
  · subst hne
    go_enter Tryd.func33, Tryd.ntmps33
    go_wp2
    go_loopw [13] (fun si wr => ∃ i : Nat, si = .int .i64 i ∧ i ≤ n1 ∧ Hid (Below w.heap.size w wr) ∧ Hid (∀ j (a : j < l1.length) (b : j < l2.length), j < i → l1[j] = l2[j])) (fun si _ => n1 - (intOf si).toNat)
    case atStart => exact ⟨0, rfl, Nat.zero_le _, Lib.hid (Below.refl _ _), Lib.hid (fun j _ _ h => absurd h (by omega))⟩
    case round =>
      obtain ⟨i, rfl, hi, hR, hE⟩ := hrel
      by_cases hlt : i < n1
      · have hi1 : i < l1.length := by rw [← HN1.out]; exact hlt
        have hi2 : i < l2.length := by rw [← HN2.out]; exact hlt
        obtain ⟨x, hcx, hx⟩ := H1.out.at_ i hi1
        obtain ⟨y, hcy, hy⟩ := H2.out.at_ i hi2
        rw [Nat.zero_add] at hcx hcy
        have HC : Hid (∀ W, Below w.heap.size w W → (W.cell? ⟨g1, i, none⟩ = some x ∧ W.cell? ⟨g2, i, none⟩ = some y) ∧ Below w.heap.size w W) := Lib.hid (fun W h => ⟨⟨(h.cell (p := ⟨g1, i, none⟩) (World.block_lt_of_cell? _ _ hcx)).trans hcx, (h.cell (p := ⟨g2, i, none⟩) (World.block_lt_of_cell? _ _ hcy)).trans hcy⟩, h⟩)
        have HS : Hid (∀ W, ((W.cell? ⟨g1, i, none⟩ = some x ∧ W.cell? ⟨g2, i, none⟩ = some y) ∧ Below w.heap.size w W) → Calls Tryd.prog 21 #[.agg #[x], .agg #[y]] W fun e w' => ∃ r : Bool, e = .returned (.bool r) ∧ (r = true ↔ l1[i] = l2[i]) ∧ Below w.heap.size w w') := Lib.hid (fun W h => (HIH.out _ (List.getElem_mem hi1) l2[i] S T x y W (hx.below h.2) (hy.below h.2) (HW1.out _ (List.getElem_mem hi1)) (HW2.out _ (List.getElem_mem hi2))).mono (fun _ _ ⟨r, a, b, c⟩ => ⟨r, a, b, h.2.trans (c.mono h.2.size)⟩))
        have hS0 := HC.out wr.drew hR.out.drew
        clear hcx hcy hx hy
        go_wp2
        go_region_held_law (fun W => (W.cell? ⟨g1, i, none⟩ = some x ∧ W.cell? ⟨g2, i, none⟩ = some y) ∧ Below w.heap.size w W) (first | (with_reducible exact hS0) | exact HC.out _ hB | assumption)
          (first | (go_at_call 21; (with_reducible refine (HS.out _ (by assumption)).mono ?_); rintro e w2 ⟨r, rfl, hr, hB⟩))
        have HB := Lib.hid hB
        have HR := Lib.hid hr
        clear hB hr hS0
        cases r with
        | false =>
          go_wp2
          go_ret
          exact ⟨false, rfl, ⟨(fun h => by cases h), fun h => by
            subst h
            exact HR.out.2 rfl⟩, HB.out⟩
        | true =>
          go_wp2
          go_roundw
          case rel => exact ⟨i + 1, by go_num, by omega, HB, Lib.hid (fun j a b hj => by
            by_cases e : j = i
            · subst e; exact HR.out.1 rfl
            · exact hE.out j a b (by omega))⟩
          case measure => simp [intOf]; omega
      · obtain rfl : n1 = i := by omega
        go_wp2
        go_ret
        exact ⟨true, rfl, ⟨fun _ => List.ext_getElem (by rw [← HN1.out, ← HN2.out]) (fun j a b => hE.out j a b (by rw [HN1.out]; exact a)), fun _ => rfl⟩, hR.out⟩
  · have hd1 : (((n1 : Nat) : Int) == (n2 : Nat)) = false := by simp; omega
    have hd2 : (n1 == n2) = false := by simpa using hne
    have hd3 : (n1 != n2) = true := by simpa using hne
    have HNE := Lib.hid hne
    clear hne
    go_enter Tryd.func33, Tryd.ntmps33
    go_wp2
    go_ret
    exact ⟨false, rfl, ⟨(fun h => by cases h), fun h => by subst h; exact absurd (HN1.out.trans HN2.out.symm) HNE.out⟩, Below.refl _ _⟩

theorem field_row (x y : Value) (w : World) : (Instr.field 58 (.agg #[x, y]) 0).run Tryd.prog w = .ok x w := by kernel_rfl
attribute [go_sem] field_row

theorem kind_0 {b : Bx} (h : 0 = kindB b) : b = .nothing := by cases b <;> first | rfl | (simp [kindB] at h; done)
theorem kind_1 {b : Bx} (h : 1 = kindB b) : ∃ y, b = .truth y := by cases b <;> first | exact ⟨_, rfl⟩ | (simp [kindB] at h; done)
theorem kind_2 {b : Bx} (h : 2 = kindB b) : ∃ y, b = .number y := by cases b <;> first | exact ⟨_, rfl⟩ | (simp [kindB] at h; done)
theorem kind_3 {b : Bx} (h : 3 = kindB b) : ∃ y, b = .text y := by cases b <;> first | exact ⟨_, rfl⟩ | (simp [kindB] at h; done)
theorem kind_4 {b : Bx} (h : 4 = kindB b) : ∃ y, b = .list y := by cases b <;> first | exact ⟨_, rfl⟩ | (simp [kindB] at h; done)
theorem same_kind {a b : Bx} (h : a = b) : kindB a = kindB b := by rw [h]

set_option maxHeartbeats 8000000 in
set_option maxRecDepth 100000 in
theorem same_step (a : Bx) (ih : ∀ l, a = .list l → ∀ x ∈ l, SameOk x) : SameOk a := by
  intro b S T va vb w hva hvb hwa hwb
  have hbb := (one_alloc w (.cells #[va] 29)).2.alloc (by simp) (.cells #[vb] 29)
  obtain ⟨W2, hW2⟩ : ∃ W2, W2 = (w.alloc (.cells #[va] 29)).alloc (.cells #[vb] 29) := ⟨_, rfl⟩
  rw [← hW2] at hbb
  have oa : W2.cell? ⟨w.heap.size, 0, none⟩ = some va := by rw [hW2]; exact ((One.alloc w va 29).keep (alloc_below _ _)).c
  have ob : W2.cell? ⟨w.heap.size + 1, 0, none⟩ = some vb := by
    have h := (One.alloc (w.alloc (.cells #[va] 29)) vb 29).c
    rw [World.size_alloc] at h
    rw [hW2]
    exact h
  have HBB := Lib.hid hbb
  have HC : Hid (∀ W, Below W2.heap.size W2 W → (W.cell? ⟨w.heap.size, 0, none⟩ = some va ∧ W.cell? ⟨w.heap.size + 1, 0, none⟩ = some vb) ∧ Below W2.heap.size W2 W) := Lib.hid (fun W h => ⟨⟨(h.cell (p := ⟨w.heap.size, 0, none⟩) (World.block_lt_of_cell? _ _ oa)).trans oa, (h.cell (p := ⟨w.heap.size + 1, 0, none⟩) (World.block_lt_of_cell? _ _ ob)).trans ob⟩, h⟩)
  have HKA : Hid (∀ W, ((W.cell? ⟨w.heap.size, 0, none⟩ = some va ∧ W.cell? ⟨w.heap.size + 1, 0, none⟩ = some vb) ∧ Below W2.heap.size W2 W) → Calls Tryd.prog 14 #[.agg #[va]] W fun e w' => e = .returned (.int .i64 (kindB a : Nat)) ∧ Below W2.heap.size W2 w') := Lib.hid (fun W h => (kind_any S a va W (hva.below (HBB.out.trans (h.2.mono HBB.out.size)))).mono (fun _ _ ⟨h1, h2⟩ => ⟨h1, h.2.trans (h2.mono h.2.size)⟩))
  have HKB : Hid (∀ W, ((W.cell? ⟨w.heap.size, 0, none⟩ = some va ∧ W.cell? ⟨w.heap.size + 1, 0, none⟩ = some vb) ∧ Below W2.heap.size W2 W) → Calls Tryd.prog 14 #[.agg #[vb]] W fun e w' => e = .returned (.int .i64 (kindB b : Nat)) ∧ Below W2.heap.size W2 w') := Lib.hid (fun W h => (kind_any T b vb W (hvb.below (HBB.out.trans (h.2.mono HBB.out.size)))).mono (fun _ _ ⟨h1, h2⟩ => ⟨h1, h.2.trans (h2.mono h.2.size)⟩))
  have HVA := Lib.hid hva
  have HVB := Lib.hid hvb
  have HWA := Lib.hid hwa
  have HWB := Lib.hid hwb
  have HIH := Lib.hid ih
  have HE2 := Lib.hid hW2
  have HK := Lib.hid (@same_kind a b)
  obtain ⟨ka, hka⟩ : ∃ ka, ka = kindB a := ⟨_, rfl⟩
  obtain ⟨kb, hkb⟩ : ∃ kb, kb = kindB b := ⟨_, rfl⟩
  have HKAE := Lib.hid hka
  have HKBE := Lib.hid hkb
  rw [← hka] at HKA HK
  rw [← hkb] at HKB HK
  clear hva hvb hwa hwb ih hW2 oa ob hbb hka hkb
  by_cases hne : ka = kb
  · have hd1 : (((ka : Nat) : Int) == (kb : Nat)) = true := by simp [hne]
    have hd2 : (((ka : Nat) : Int) != (kb : Nat)) = false := by simp [hne]
    have HNE := Lib.hid hne
    have hne2 : (ka == kb) = true := by simpa using hne
    have hne3 : (ka != kb) = false := by simpa using hne
    clear hne
    go_enter Tryd.func21, Tryd.ntmps21
    go_wp2
    rw [← HE2.out]
    have hS0 := HC.out W2.drew (Below.refl _ _).drew
    go_region_held_law (fun W => (W.cell? ⟨w.heap.size, 0, none⟩ = some va ∧ W.cell? ⟨w.heap.size + 1, 0, none⟩ = some vb) ∧ Below W2.heap.size W2 W) (first | (with_reducible exact hS0) | exact HC.out _ hB1 | exact HC.out _ hB2 | assumption)
      (first
        | (go_at_call 14; (with_reducible refine (HKA.out _ (by assumption)).mono ?_); rintro e w2 ⟨rfl, hB1⟩)
        | (go_at_call 14; (with_reducible refine (HKB.out _ (by assumption)).mono ?_); rintro e w3 ⟨rfl, hB2⟩))
    obtain ⟨⟨ca, cb⟩, _⟩ := HC.out _ hB2
    have HB := Lib.hid hB2
    clear hS0 hB1 hB2
    have HKK := Lib.hid (HKAE.out.symm.trans (HNE.out.trans HKBE.out))
    have HXA := HVA.out
    have HXB := HVB.out
    cases a with
    | nothing =>
      obtain rfl := kind_0 HKK.out
      rw [BoxIs] at HXA HXB
      subst HXA HXB
      go_wp2
      go_ret
      exact ⟨true, rfl, by simp, HBB.out.trans (HB.out.mono HBB.out.size)⟩
    | truth x =>
      obtain ⟨y, rfl⟩ := kind_1 HKK.out
      rw [BoxIs] at HXA HXB
      subst HXA HXB
      go_wp2
      go_ret
      exact ⟨x == y, rfl, ⟨fun h => by rw [eq_of_beq h], fun h => by injection h with h; rw [h]; simp⟩, HBB.out.trans (HB.out.mono HBB.out.size)⟩
    | number x =>
      obtain ⟨y, rfl⟩ := kind_2 HKK.out
      rw [BoxIs] at HXA HXB
      subst HXA HXB
      go_wp2
      go_ret
      exact ⟨(x : Int) == (y : Int), rfl, ⟨fun h => by have := eq_of_beq h; congr 1; omega, fun h => by injection h with h; rw [h]; simp⟩, HBB.out.trans (HB.out.mono HBB.out.size)⟩
    | text x =>
      obtain ⟨y, rfl⟩ := kind_3 HKK.out
      rw [BoxIs] at HXA HXB
      subst HXA HXB
      go_wp2
      go_ret
      exact ⟨x.toList == y.toList, rfl, ⟨fun h => by have := eq_of_beq h; congr 1; rw [ByteArray.toList_eq, ByteArray.toList_eq] at this; exact text_of_list this, fun h => by injection h with h; rw [h]; simp⟩, HBB.out.trans (HB.out.mono HBB.out.size)⟩
    | list l =>
      obtain ⟨l2, rfl⟩ := kind_4 HKK.out
      rw [BoxIs] at HXA HXB
      obtain ⟨g1, HXA, hg1, hl1⟩ := HXA
      obtain ⟨g2, HXB, hg2, hl2⟩ := HXB
      have hwa := HWA.out
      have hwb := HWB.out
      rw [wB] at hwa hwb
      have HSR := Lib.hid (fun (W : World) (hW : Below w.heap.size w W) => sameRows_any l l2 (HIH.out l rfl) S T g1 g2 W (BoxL.keep (fun k hk => ⟨hk, fun hlt => hW.block k hlt⟩) g1 (fun hlt => hW.block g1 hlt) 0 l hl1) (BoxL.keep (fun k hk => ⟨hk, fun hlt => hW.block k hlt⟩) g2 (fun hlt => hW.block g2 hlt) 0 l2 hl2) (by omega) (by omega))
      obtain ⟨n1, hn1⟩ : ∃ n1, n1 = l.length := ⟨_, rfl⟩
      obtain ⟨n2, hn2⟩ : ∃ n2, n2 = l2.length := ⟨_, rfl⟩
      obtain ⟨d1, hdd1⟩ : ∃ d1, d1 = maxD l + 1 := ⟨_, rfl⟩
      obtain ⟨d2, hdd2⟩ : ∃ d2, d2 = maxD l2 + 1 := ⟨_, rfl⟩
      rw [← hn1, ← hn2] at HSR
      rw [← hn1, ← hdd1] at HXA
      rw [← hn2, ← hdd2] at HXB
      have HRI : Hid (∀ r : Bool, (r = true ↔ l = l2) → (r = true ↔ Bx.list l = Bx.list l2)) := Lib.hid (fun r h => h.trans ⟨fun h => by rw [h], fun h => by injection h⟩)
      clear hl1 hl2 hg1 hg2 hwa hwb hn1 hn2 hdd1 hdd2 HVA HVB HKAE HKBE HK HKK HWA HWB HIH HKA HKB HNE
      subst HXA HXB
      obtain ⟨W4, hW4⟩ : ∃ W4, W4 = w3.alloc (.cells #[.slice (some ⟨g1, 0, none⟩) n1 n1, .int .i64 (d1 : Nat)] 58) := ⟨_, rfl⟩
      have hb4 : Below w3.heap.size w3 W4 := by rw [hW4]; exact (one_alloc w3 _).2
      have hbw4 : Below w.heap.size w W4 := HBB.out.trans ((HB.out.trans (hb4.mono HB.out.size)).mono HBB.out.size)
      have c41 : W4.cell? ⟨w3.heap.size, 0, none⟩ = some (.slice (some ⟨g1, 0, none⟩) n1 n1) := by
        rw [hW4, World.cell?_alloc_at _ _ _ _ (by simp)]
        rfl
      have c42 := (hb4.cell (p := ⟨w.heap.size + 1, 0, none⟩) (World.block_lt_of_cell? _ _ cb)).trans cb
      have HE4 := Lib.hid hW4
      have HC4 : Hid (∀ W, Below W4.heap.size W4 W → (W.cell? ⟨w3.heap.size, 0, none⟩ = some (.slice (some ⟨g1, 0, none⟩) n1 n1) ∧ W.cell? ⟨w.heap.size + 1, 0, none⟩ = some (.iface 58 (.agg #[.slice (some ⟨g2, 0, none⟩) n2 n2, .int .i64 (d2 : Nat)]))) ∧ Below W4.heap.size W4 W) := Lib.hid (fun W h => ⟨⟨(h.cell (p := ⟨w3.heap.size, 0, none⟩) (World.block_lt_of_cell? _ _ c41)).trans c41, (h.cell (p := ⟨w.heap.size + 1, 0, none⟩) (World.block_lt_of_cell? _ _ c42)).trans c42⟩, h⟩)
      have HSR4 : Hid (∀ W, ((W.cell? ⟨w3.heap.size, 0, none⟩ = some (.slice (some ⟨g1, 0, none⟩) n1 n1) ∧ W.cell? ⟨w.heap.size + 1, 0, none⟩ = some (.iface 58 (.agg #[.slice (some ⟨g2, 0, none⟩) n2 n2, .int .i64 (d2 : Nat)]))) ∧ Below W4.heap.size W4 W) → Calls Tryd.prog 33 #[.slice (some ⟨g1, 0, none⟩) n1 n1, .slice (some ⟨g2, 0, none⟩) n2 n2] W fun e w' => ∃ r : Bool, e = .returned (.bool r) ∧ (r = true ↔ l = l2) ∧ Below W4.heap.size W4 w') := Lib.hid (fun W h => (HSR.out W (hbw4.trans (h.2.mono hbw4.size))).mono (fun _ _ ⟨r, a, b, c⟩ => ⟨r, a, b, h.2.trans (c.mono h.2.size)⟩))
      have HBW4 := Lib.hid hbw4
      have hd4 : ((d1 : Nat) : Int) = d1 := rfl
      clear hW4 hb4 hbw4 c41 c42 HSR hd4
      go_wp2
      rw [← HE4.out]
      have hS0 := HC4.out W4.drew (Below.refl _ _).drew
      go_region_held_law (fun W => (W.cell? ⟨w3.heap.size, 0, none⟩ = some (.slice (some ⟨g1, 0, none⟩) n1 n1) ∧ W.cell? ⟨w.heap.size + 1, 0, none⟩ = some (.iface 58 (.agg #[.slice (some ⟨g2, 0, none⟩) n2 n2, .int .i64 (d2 : Nat)]))) ∧ Below W4.heap.size W4 W) (first | (with_reducible exact hS0) | exact HC4.out _ hB3 | assumption)
        (first | (go_at_call 33; (with_reducible refine (HSR4.out _ (by assumption)).mono ?_); rintro e w5 ⟨r, rfl, hr, hB3⟩))
      have H5 := Lib.hid (And.intro (HRI.out r hr) (HBW4.out.trans (hB3.mono HBW4.out.size)))
      clear hS0 hr hB3
      go_wp2
      go_ret
      exact ⟨r, rfl, H5.out.1, H5.out.2⟩
  · have hd1 : (((ka : Nat) : Int) == (kb : Nat)) = false := by simp; omega
    have hd2 : (ka == kb) = false := by simpa using hne
    have hd3 : (ka != kb) = true := by simpa using hne
    have HNE := Lib.hid hne
    clear hne
    go_enter Tryd.func21, Tryd.ntmps21
    go_wp2
    rw [← HE2.out]
    have hS0 := HC.out W2.drew (Below.refl _ _).drew
    go_region_held_law (fun W => (W.cell? ⟨w.heap.size, 0, none⟩ = some va ∧ W.cell? ⟨w.heap.size + 1, 0, none⟩ = some vb) ∧ Below W2.heap.size W2 W) (first | (with_reducible exact hS0) | exact HC.out _ hB1 | exact HC.out _ hB2 | assumption)
      (first
        | (go_at_call 14; (with_reducible refine (HKA.out _ (by assumption)).mono ?_); rintro e w2 ⟨rfl, hB1⟩)
        | (go_at_call 14; (with_reducible refine (HKB.out _ (by assumption)).mono ?_); rintro e w3 ⟨rfl, hB2⟩))
    have HB := Lib.hid hB2
    clear hS0 hB1 hB2
    go_wp2
    go_ret
    exact ⟨false, rfl, ⟨(fun h => by cases h), fun h => absurd (HK.out h) HNE.out⟩, HBB.out.trans (HB.out.mono HBB.out.size)⟩

theorem same_any (a : Bx) : SameOk a := by
  induction a using Bx.ind with
  | h0 => exact same_step _ (fun l h => by cases h)
  | h1 b => exact same_step _ (fun l h => by cases h)
  | h2 n => exact same_step _ (fun l h => by cases h)
  | h3 s => exact same_step _ (fun l h => by cases h)
  | h4 l ih => exact same_step _ (fun l2 h => by injection h with h; subst h; exact ih)
end Go.Proofs.YtbghemndcndhpaaDoor
