/- (box.Box).Count and its closure: how many boxes of a kind a box is, or has in it. Condition: at most 2^30 boxes. -/
import Derived.Test.YtbghemndcndhpaaDoorBoxRCount
import Derived.Deep.RegionHeldLaw
namespace Go.Proofs.YtbghemndcndhpaaDoor
open Go.RowKit

/-- The closure's value. -/
def cfun (gk gc : Nat) : Value := .func (.func 32) #[] #[.pointer (some ⟨gk, 0, none⟩), .pointer (some ⟨gc, 0, none⟩)]

def CountOk (b : Bx) : Prop := ∀ (S : Nat → Prop) (v : Value) (gk gc : Nat) (kind : Int) (w : World), BoxIs S w b v → w.cell? ⟨gk, 0, none⟩ = some (.int .i64 kind) → w.cell? ⟨gc, 0, none⟩ = some (cfun gk gc) → wB b ≤ 1073741824 →
  Calls Tryd.prog 32 #[.agg #[v], .pointer (some ⟨gk, 0, none⟩), .pointer (some ⟨gc, 0, none⟩)] w fun e w' => e = .returned (.int .i64 (countB kind b : Nat)) ∧ Below w.heap.size w w'

theorem countB_kind (kind : Int) (b : Bx) (h : ∀ l, b ≠ .list l) : countB kind b = if ((kindB b : Nat) : Int) = kind then 1 else 0 := by
  cases b with
  | nothing => rw [countB]; simp [kindB, eq_comm]
  | truth _ => rw [countB]; simp [kindB, eq_comm]
  | number _ => rw [countB]; simp [kindB, eq_comm]
  | text _ => rw [countB]; simp [kindB, eq_comm]
  | list l => exact absurd rfl (h l)

set_option maxHeartbeats 4000000 in
set_option maxRecDepth 100000 in
theorem count_some (b : Bx) (hb : ∀ l, b ≠ .list l) : CountOk b := by
  intro S v gk gc kind w hv hk hc hw
  have HR := Lib.hid (countB_kind kind b hb)
  have hgk : gk < w.heap.size := World.block_lt_of_cell? _ _ hk
  have hbb := alloc_below w (.cells #[v] 29)
  have HK := Lib.hid (kind_any S b v (w.alloc (.cells #[v] 29)).drew (BoxIs.keep (w := w) (w' := (w.alloc (.cells #[v] 29)).drew) (fun k hs => ⟨hs, fun hlt => hbb.block k hlt⟩) _ _ hv))
  have k1 := (hbb.cell (p := ⟨gk, 0, none⟩) hgk).trans hk
  have HBB := Lib.hid hbb
  have hform := hv
  obtain ⟨kd, hkd⟩ : ∃ kd, kd = kindB b := ⟨_, rfl⟩
  have hkd4 : kd ≤ 4 := by rw [hkd]; cases b <;> simp [kindB]
  rw [← hkd] at HK HR
  have hcase : (((kd : Nat) : Int) == kind) = true ∧ Hid (countB kind b = 1) ∨ (((kd : Nat) : Int) == kind) = false ∧ Hid (countB kind b = 0) := by
    by_cases hkk : ((kd : Nat) : Int) = kind
    · exact Or.inl ⟨by simp [hkk], Lib.hid (HR.out.trans (if_pos hkk))⟩
    · exact Or.inr ⟨by simpa using hkk, Lib.hid (HR.out.trans (if_neg hkk))⟩
  have hvf : v = .nilIface ∨ (∃ x, v = .iface 4 x) ∨ (∃ x, v = .iface 22 x) ∨ ∃ x, v = .iface 9 x := by
    cases b with
    | nothing => rw [BoxIs] at hv; exact Or.inl hv
    | truth _ => rw [BoxIs] at hv; exact Or.inr (Or.inl ⟨_, hv⟩)
    | number _ => rw [BoxIs] at hv; exact Or.inr (Or.inr (Or.inl ⟨_, hv⟩))
    | text _ => rw [BoxIs] at hv; exact Or.inr (Or.inr (Or.inr ⟨_, hv⟩))
    | list l => exact absurd rfl (hb l)
  clear hv hk hc hw hb hkd HR hform hbb
  obtain ⟨ct, hct⟩ : ∃ ct, ct = countB kind b := ⟨_, rfl⟩
  rw [← hct] at hcase ⊢
  clear hct
  go_enter Tryd.func32, Tryd.ntmps32
  go_wp2
  have hS0 : (w.alloc (.cells #[v] 29)).drew.cell? ⟨w.heap.size, 0, none⟩ = some v ∧ (w.alloc (.cells #[v] 29)).drew.cell? ⟨gk, 0, none⟩ = some (.int .i64 kind) ∧ Below w.heap.size w (w.alloc (.cells #[v] 29)).drew := ⟨(One.alloc w v 29).c, k1, HBB.out.drew⟩
  have HS0 := Lib.hid hS0
  clear k1 hS0
  go_region_held_law (fun w' => w'.cell? ⟨w.heap.size, 0, none⟩ = some v ∧ w'.cell? ⟨gk, 0, none⟩ = some (.int .i64 kind) ∧ Below w.heap.size w w') (first | exact HS0.out | exact HS1.out | assumption)
    (first
      | (go_at_call 14; refine HK.out.mono ?_; rintro e w1 ⟨rfl, hb1⟩; have HS1 := Lib.hid (show w1.cell? ⟨w.heap.size, 0, none⟩ = some v ∧ w1.cell? ⟨gk, 0, none⟩ = some (.int .i64 kind) ∧ Below w.heap.size w w1 from ⟨(hb1.cell (p := ⟨w.heap.size, 0, none⟩) (by simp)).trans HS0.out.1, (hb1.cell (p := ⟨gk, 0, none⟩) (by simp; omega)).trans HS0.out.2.1, HS0.out.2.2.trans (hb1.mono (by simp))⟩); clear hb1))
  rename_i hh
  obtain ⟨s0, _, s2⟩ := hh
  have HB2 := Lib.hid s2
  clear s2
  rcases hcase with ⟨hd, HC⟩ | ⟨hd, HC⟩
  all_goals rcases hvf with rfl | ⟨x, rfl⟩ | ⟨x, rfl⟩ | ⟨x, rfl⟩
  all_goals
    go_wp2
    go_ret
    exact ⟨by rw [HC.out]; rfl, HB2.out.alloc HB2.out.size _⟩

set_option maxHeartbeats 8000000 in
set_option maxRecDepth 100000 in
theorem count_list (l : List Bx) (ih : ∀ b ∈ l, CountOk b) : CountOk (.list l) := by
  intro S v gk gc kind w hv hk hc hw
  have hgk : gk < w.heap.size := World.block_lt_of_cell? _ _ hk
  have hgc : gc < w.heap.size := World.block_lt_of_cell? _ _ hc
  have hbb := alloc_below w (.cells #[v] 29)
  have HK : Hid (Calls Tryd.prog 14 #[.agg #[v]] (w.alloc (.cells #[v] 29)).drew fun e w' => e = .returned (.int .i64 4) ∧ Below (w.alloc (.cells #[v] 29)).drew.heap.size (w.alloc (.cells #[v] 29)).drew w') := Lib.hid (kind_any S (.list l) v (w.alloc (.cells #[v] 29)).drew (BoxIs.keep (w := w) (w' := (w.alloc (.cells #[v] 29)).drew) (fun k hs => ⟨hs, fun hlt => hbb.block k hlt⟩) _ _ hv))
  have k1 := (hbb.cell (p := ⟨gk, 0, none⟩) hgk).trans hk
  have hS0 : (w.alloc (.cells #[v] 29)).drew.cell? ⟨w.heap.size, 0, none⟩ = some v ∧ (w.alloc (.cells #[v] 29)).drew.cell? ⟨gk, 0, none⟩ = some (.int .i64 kind) ∧ Below w.heap.size w (w.alloc (.cells #[v] 29)).drew := ⟨(One.alloc w v 29).c, k1, hbb.drew⟩
  have HS0 := Lib.hid hS0
  have HKC := Lib.hid (show _ ∧ _ from ⟨hk, hc⟩)
  rw [BoxIs] at hv
  obtain ⟨g, hv, hg, hl⟩ := hv
  rw [wB] at hw
  have hll := wL_len l
  have hcl : countL kind l ≤ 1073741824 := Nat.le_trans (countL_le kind l (fun b _ => countB_le kind b)) (by omega)
  obtain ⟨c0, hc0⟩ : ∃ c0 : Nat, c0 = if kind = 4 then 1 else 0 := ⟨_, rfl⟩
  have HR : Hid (countB kind (.list l) = c0 + countL kind l) := Lib.hid (by rw [countB, hc0])
  have hcase : ((4 : Int) == kind) = true ∧ Hid (c0 = 1) ∨ ((4 : Int) == kind) = false ∧ Hid (c0 = 0) := by
    by_cases hk : kind = 4
    · exact Or.inl ⟨by simp [hk], Lib.hid (by rw [hc0, if_pos hk])⟩
    · exact Or.inr ⟨by simp; omega, Lib.hid (by rw [hc0, if_neg hk])⟩
  have hc1 : c0 ≤ 1 := by rw [hc0]; split <;> omega
  have HTK := Lib.hid (fun i (hi : i < l.length) => countL_take kind l i hi)
  have HTL := Lib.hid (fun i => countL_le_take kind l i)
  obtain ⟨N, hN⟩ : ∃ N, N = l.length := ⟨_, rfl⟩
  have HFL : Hid (countL kind (l.take N) = countL kind l) := Lib.hid (by rw [hN, List.take_length])
  have HWB := Lib.hid (show ∀ b ∈ l, wB b ≤ 1073741824 from fun b hb => by have := wL_mem hb; omega)
  rw [← hN] at hv hll
  have hNw : N ≤ 1073741824 := by omega
  have HN := Lib.hid hN
  have HL := Lib.hid hl
  have HIH := Lib.hid ih
  obtain ⟨dp, hdp⟩ : ∃ dp, dp = maxD l + 1 := ⟨_, rfl⟩
  rw [← hdp] at hv
  clear k1 hS0 hk hc hw hbb hN hl ih hc0 hdp hg
  subst hv
  obtain ⟨rv, hrv⟩ : ∃ rv : Value, rv = .iface 58 (.agg #[.slice (some ⟨g, 0, none⟩) N N, .int .i64 (dp : Nat)]) := ⟨_, rfl⟩
  rw [← hrv] at HK HS0
  have HRV := Lib.hid hrv
  rw [← hrv]
  clear hrv
  rcases hcase with ⟨hd, HC⟩ | ⟨hd, HC⟩
  all_goals
    go_enter Tryd.func32, Tryd.ntmps32
    go_wp2
    go_region_held_law (fun w' => w'.cell? ⟨w.heap.size, 0, none⟩ = some rv ∧ w'.cell? ⟨gk, 0, none⟩ = some (.int .i64 kind) ∧ Below w.heap.size w w') (first | exact HS0.out | exact HS1.out | assumption)
      (first
        | (go_at_call 14; refine HK.out.mono ?_; rintro e w1 ⟨rfl, hb1⟩; have HS1 := Lib.hid (show w1.cell? ⟨w.heap.size, 0, none⟩ = some rv ∧ w1.cell? ⟨gk, 0, none⟩ = some (.int .i64 kind) ∧ Below w.heap.size w w1 from ⟨(hb1.cell (p := ⟨w.heap.size, 0, none⟩) (by simp)).trans HS0.out.1, (hb1.cell (p := ⟨gk, 0, none⟩) (by simp; omega)).trans HS0.out.2.1, HS0.out.2.2.trans (hb1.mono (by simp))⟩); clear hb1))
    rename_i hh
    obtain ⟨s0, _, s2⟩ := hh
    have HB2 := Lib.hid s2
    rw [HRV.out] at s0
    clear s2
    go_wp2
    go_loopw [5, 26] (fun sd si wr => ∃ i : Nat, si = .int .i64 i ∧ i ≤ N ∧ sd = .int .i64 (c0 + countL kind (l.take i) : Nat) ∧ Hid (Below w.heap.size w wr)) (fun _ si _ => N - (intOf si).toNat)
    case atStart => exact ⟨0, rfl, Nat.zero_le _, by rw [HC.out]; simp [countL], Lib.hid (HB2.out.alloc HB2.out.size _)⟩
    case round =>
      obtain ⟨i, rfl, hi, rfl, hR⟩ := hrel
      by_cases hlt : i < N
      · have hil : i < l.length := by rw [← HN.out]; exact hlt
        obtain ⟨x, hcx, hx⟩ := HL.out.at_ i hil
        have hgl : g < w.heap.size := World.block_lt_of_cell? _ _ hcx
        have q0 : wr.cell? ⟨g, i, none⟩ = some x := by
          have := (hR.out.cell (p := ⟨g, 0 + i, none⟩) hgl).trans hcx
          rwa [Nat.zero_add] at this
        have hb3 : Below w.heap.size w (wr.alloc (.cells #[x] 29)) := hR.out.alloc hR.out.size _
        have hc3 : (wr.alloc (.cells #[x] 29)).cell? ⟨gc, 0, none⟩ = some (.func (.func 32) #[] #[.pointer (some ⟨gk, 0, none⟩), .pointer (some ⟨gc, 0, none⟩)]) := (hb3.cell (p := ⟨gc, 0, none⟩) hgc).trans HKC.out.2
        have HCL := Lib.hid (HIH.out l[i] (List.getElem_mem hil) S x gk gc kind _ (hx.below hb3) ((hb3.cell (p := ⟨gk, 0, none⟩) hgk).trans HKC.out.1) hc3 (HWB.out _ (List.getElem_mem hil)))
        have hst := HTK.out i hil
        have h1 := HTL.out i
        have h2 := HTL.out (i + 1)
        have hmx : countB kind l[i] ≤ 1073741824 := by omega
        have hform := hx.form
        obtain ⟨d, hd2⟩ : ∃ d, d = countB kind l[i] := ⟨_, rfl⟩
        rw [← hd2] at HCL hst hmx
        have h3 : c0 + countL kind (l.take i) ≤ 1073741825 := by omega
        have HST := Lib.hid hst
        have HB3 := Lib.hid hb3
        clear hx hst hd2 h1 h2 hb3 hcx
        obtain ⟨m1, hm1⟩ : ∃ m1, m1 = countL kind (l.take (i + 1)) := ⟨_, rfl⟩
        rw [← hm1] at HST
        have HM1 := Lib.hid hm1
        clear hm1
        obtain ⟨m0, hm0⟩ : ∃ m0, m0 = countL kind (l.take i) := ⟨_, rfl⟩
        rw [← hm0] at HST h3 ⊢
        clear hm0
        obtain ⟨m, hm⟩ : ∃ m, m = c0 + m0 := ⟨_, rfl⟩
        rw [← hm] at h3 ⊢
        have HSM := Lib.hid hm
        clear hm
        rcases hform with rfl | ⟨t, u, rfl⟩
        all_goals
          go_wp2_with fail
          refine HCL.out.mono ?_
          rintro e w2 ⟨rfl, hb2⟩
          have H := Lib.hid (HB3.out.trans (hb2.mono HB3.out.size))
          clear hb2
          go_wp2
          go_roundw
          case rel => exact ⟨i + 1, by go_num, by omega, by rw [← HM1.out, HST.out, ← Nat.add_assoc, ← HSM.out]; go_num, H⟩
          case measure => simp [intOf]; omega
      · obtain rfl : i = N := by omega
        rw [HFL.out]
        obtain ⟨m, hm⟩ : ∃ m, m = c0 + countL kind l := ⟨_, rfl⟩
        rw [← hm] at HR ⊢
        clear hm
        go_wp2
        go_ret
        exact ⟨by rw [HR.out]; rfl, hR.out⟩

theorem countIn_any (b : Bx) : CountOk b := by
  induction b using Bx.ind with
  | h0 => exact count_some _ (by intro l h; cases h)
  | h1 b => exact count_some _ (by intro l h; cases h)
  | h2 n => exact count_some _ (by intro l h; cases h)
  | h3 s => exact count_some _ (by intro l h; cases h)
  | h4 l ih => exact count_list l ih

end Go.Proofs.YtbghemndcndhpaaDoor
