/- A view that a call made: isSpare, Take; rows of spares. No condition but sizes. -/
import Derived.Test.YtdbklklmpnlinaaFvMade
import Derived.Test.YtdbklklmpnlinaaFrDocs
namespace Go.Proofs.Ytdbklklmpnlinaa
open Go.RowKit Go.Maps

def nts (ss : List (Int × Int)) (j : Nat) : Int × Int := ss.getD j (0, 0)
theorem nts_eq {ss : List (Int × Int)} {j : Nat} (h : j < ss.length) : nts ss j = ss[j] := by
  unfold nts
  rw [List.getD_eq_getElem?_getD, List.getElem?_eq_getElem h]
  rfl
def hasS (ss : List (Int × Int)) (c : Int) : Bool := ss.any (fun s => decide (s.1 = c))
theorem hasS_none {ss : List (Int × Int)} {c : Int} (h : ∀ j, j < ss.length → (nts ss j).1 ≠ c) : hasS ss c = false := by
  unfold hasS
  rw [List.any_eq_false]
  intro x hx
  obtain ⟨j, hj, rfl⟩ := List.mem_iff_getElem.1 hx
  have := h j hj
  rw [nts_eq hj] at this
  simp [this]
theorem hasS_some {ss : List (Int × Int)} {c : Int} {i : Nat} (hi : i < ss.length) (he : (nts ss i).1 = c) : hasS ss c = true := by
  unfold hasS
  rw [List.any_eq_true]
  rw [nts_eq hi] at he
  exact ⟨ss[i], List.getElem_mem hi, by simp [he]⟩
theorem spC_len : ∀ ss : List (Int × Int), (spC ss).length = ss.length * 2
  | [] => rfl
  | _ :: l => by simp only [spC, List.length_cons, spC_len l]; omega
theorem spC_app : ∀ (a b : List (Int × Int)), spC (a ++ b) = spC a ++ spC b
  | [], _ => rfl
  | _ :: l, b => by simp only [List.cons_append, spC, spC_app l b]
theorem spC_one (ss : List (Int × Int)) : ∀ u ∈ spC ss, u.oneCell' = true := by
  intro u hu
  induction ss with
  | nil => cases hu
  | cons p l ih =>
    simp only [spC, List.mem_cons] at hu
    rcases hu with rfl | rfl | hu
    · rfl
    · rfl
    · exact ih hu
theorem spC_at : ∀ (ss : List (Int × Int)) (j : Nat), j < ss.length → (spC ss)[j * 2]? = some (.int .i64 (nts ss j).1) ∧ (spC ss)[j * 2 + 1]? = some (.int .u64 (nts ss j).2)
  | [], j, h => absurd h (Nat.not_lt_zero _)
  | p :: l, 0, _ => ⟨rfl, rfl⟩
  | p :: l, j + 1, h => by
    have ih := spC_at l j (by simpa using h)
    rw [show (j + 1) * 2 = j * 2 + 1 + 1 by omega]
    exact ih
/-- A slice value whose elements are these spares. -/
def SpAt (w : World) (v : Value) (ss : List (Int × Int)) : Prop :=
  ∃ (ao : Option Addr) (c : Nat), v = .slice ao ss.length c ∧ ss.length ≤ c ∧ c ≤ 9223372036854775807 ∧ (0 < ss.length → ∃ g o, ao = some ⟨g, o, none⟩ ∧ ∀ j, j < ss.length → w.cell? ⟨g, o + j * 2, none⟩ = some (.int .i64 (nts ss j).1) ∧ w.cell? ⟨g, o + j * 2 + 1, none⟩ = some (.int .u64 (nts ss j).2))
theorem SpAt.len {w : World} {ao : Option Addr} {n c : Nat} {ss : List (Int × Int)} (h : SpAt w (.slice ao n c) ss) : n = ss.length ∧ n ≤ c ∧ c ≤ 9223372036854775807 := by
  obtain ⟨ao', c', e, h1, h2, _⟩ := h
  injection e with e1 e2 e3
  omega
theorem SpAt.keep {w w' : World} {v : Value} {ss : List (Int × Int)} (h : SpAt w v ss) (hb : Below w.heap.size w w') : SpAt w' v ss := by
  obtain ⟨ao, c, e, h1, h2, h3⟩ := h
  refine ⟨ao, c, e, h1, h2, fun hp => ?_⟩
  obtain ⟨g, o, e2, hc⟩ := h3 hp
  refine ⟨g, o, e2, fun j hj => ?_⟩
  have hlt : g < w.heap.size := World.block_lt_of_cell? w _ (hc j hj).1
  exact ⟨(hb.cell (p := ⟨g, o + j * 2, none⟩) hlt).trans (hc j hj).1, (hb.cell (p := ⟨g, o + j * 2 + 1, none⟩) hlt).trans (hc j hj).2⟩
theorem SpAt.get {w : World} {ao : Option Addr} {n c : Nat} {ss : List (Int × Int)} (h : SpAt w (.slice ao n c) ss) {j : Nat} (hj : j < n) : ∃ g o, ao = some ⟨g, o, none⟩ ∧ w.cell? ⟨g, o + j * 2, none⟩ = some (.int .i64 (nts ss j).1) ∧ w.cell? ⟨g, o + j * 2 + 1, none⟩ = some (.int .u64 (nts ss j).2) := by
  obtain ⟨ao', c', e, h1, h2, h3⟩ := h
  injection e with e1 e2 e3
  subst e1
  subst e2
  obtain ⟨g, o, e4, hc⟩ := h3 (by omega)
  exact ⟨g, o, e4, hc j hj⟩
theorem sp_at {w : World} {B n : Nat} {v : Value} {ss : List (Int × Int)} (h : w.ownsRow B 51 2 v n (spC ss)) (hn : n = ss.length) : SpAt w v ss := by
  subst hn
  rcases h.2 with ⟨rfl, hz⟩ | ⟨g, cap, cur, rfl, hb, hg, hc1, hc2, hc3, hc4⟩
  · exact ⟨none, 0, by rw [hz], by omega, by omega, fun hp => by omega⟩
  · refine ⟨some ⟨g, 0, none⟩, cap, rfl, hc1, by unfold maxLen at hc2; omega, fun hp => ⟨g, 0, rfl, fun j hj => ?_⟩⟩
    obtain ⟨h1, h2⟩ := spC_at ss j hj
    have hcell : ∀ i, i < ss.length * 2 → w.cell? ⟨g, 0 + i, none⟩ = (spC ss)[i]? := fun i hi => by
      rw [← hc4, List.getElem?_take_of_lt hi]
      simp [World.cell?, hg]
    exact ⟨(hcell (j * 2) (by omega)).trans h1, by rw [Nat.add_assoc]; exact (hcell (j * 2 + 1) (by omega)).trans h2⟩

theorem isSpare1_any (c x ver : Int) (g : Nat) (w : World) (hc : w.cell? ⟨g, 0, none⟩ = some (.int .i64 x)) :
    Calls Try.prog 117 #[.agg #[.int .i64 c, .int .u64 ver], .pointer (some ⟨g, 0, none⟩)] w fun e w' => e = .returned (.bool (decide (c = x))) ∧ Below w.heap.size w w' := by
  have hx := boxed_below w (.cells #[.int .i64 c, .int .u64 ver] 51)
  have n1 := BX.new w 51 #[.int .i64 c, .int .u64 ver]
  obtain ⟨W1, hW1⟩ : ∃ W, W = w.alloc (.cells #[.int .i64 c, .int .u64 ver] 51) := ⟨_, rfl⟩
  rw [← hW1] at hx n1
  have hlt : g < w.heap.size := World.block_lt_of_cell? w _ hc
  have d0 : W1.cell? ⟨g, 0, none⟩ = some (.int .i64 x) := (hx.cell (p := ⟨g, 0, none⟩) hlt).trans hc
  have c0 := n1.cell 0 rfl
  have HX := Lib.hid hx
  have HW := Lib.hid hW1
  clear hx n1 hW1 hlt hc
  by_cases h : c = x
  · rw [decide_eq_true h]
    subst h
    go_enter Try.func117, Try.ntmps117
    go_upto_region 1 with fail
    rw [← HW.out]
    clear HW
    go_wp2
    go_ret
    exact ⟨rfl, HX.out⟩
  · rw [decide_eq_false h]
    have h2 : (c == x) = false := beq_eq_false_iff_ne.2 h
    go_enter Try.func117, Try.ntmps117
    go_upto_region 1 with fail
    rw [← HW.out]
    clear HW
    go_wp2
    go_ret
    exact ⟨rfl, HX.out⟩

set_option maxHeartbeats 1000000 in
theorem idxSpare_any (ao : Option Addr) (n c : Nat) (x : Int) (g : Nat) (ss : List (Int × Int)) (w : World) (h : SpAt w (.slice ao n c) ss) (hc : w.cell? ⟨g, 0, none⟩ = some (.int .i64 x)) :
    Calls Try.prog 118 #[.slice ao n c, .func (.func 117) #[] #[.pointer (some ⟨g, 0, none⟩)]] w fun e w' => ∃ z : Int, e = .returned (.int .i64 z) ∧ (hasS ss x = decide (0 ≤ z)) ∧ Below w.heap.size w w' := by
  have hl := h.len
  have HL := Lib.hid hl.1
  have hl2 := hl.2
  have HS := Lib.hid h
  have hlt0 : g < w.heap.size := World.block_lt_of_cell? w _ hc
  have HC := Lib.hid (fun V (hb : Below w.heap.size w V) => (hb.cell (p := ⟨g, 0, none⟩) hlt0).trans hc)
  have HF := Lib.hid (fun c2 ver W hb => isSpare1_any c2 x ver g W hb)
  clear h hl hc hlt0
  go_enter Try.func118, Try.ntmps118
  go_wp2
  go_loopw [8] (fun s wr => ∃ i : Nat, s = .int .i64 i ∧ i ≤ n ∧ Hid (Below w.heap.size w wr ∧ ∀ j, j < i → (nts ss j).1 ≠ x)) (fun s _ => n - (intOf s).toNat)
  case atStart => exact ⟨0, rfl, Nat.zero_le _, Lib.hid ⟨Below.refl _ _, fun j hj => absurd hj (Nat.not_lt_zero _)⟩⟩
  case round =>
    obtain ⟨i, rfl, hi, HV⟩ := hrel
    by_cases hlt : i < n
    · obtain ⟨g2, o, rfl, h1, h2⟩ := (HS.out.keep HV.out.1).get hlt
      obtain ⟨p, hp⟩ : ∃ p, p = nts ss i := ⟨_, rfl⟩
      rw [← hp] at h1 h2
      have HP := Lib.hid hp
      obtain ⟨a, v⟩ := p
      have HQ := Lib.hid (HF.out a v wr (HC.out wr HV.out.1))
      have hlt' : (i : Int) < n := by omega
      clear hp
      by_cases he : a = x
      · rw [decide_eq_true he] at HQ
        have HH := Lib.hid (hasS_some (ss := ss) (c := x) (i := i) (by have := HL.out; omega) (by rw [← HP.out]; exact he))
        clear he
        go_wp2_with fail
        refine HQ.out.mono ?_
        rintro e w5 ⟨rfl, hb5⟩
        have HB5 := Lib.hid (HV.out.1.trans (hb5.mono HV.out.1.size))
        clear hb5 h1 h2
        go_wp2
        go_ret
        exact ⟨i, rfl, by rw [HH.out, decide_eq_true (by omega)], HB5.out⟩
      · rw [decide_eq_false he] at HQ
        have HN : Hid (∀ j, j < i + 1 → (nts ss j).1 ≠ x) := Lib.hid (fun j hj => by
          by_cases e : j = i
          · subst e; rw [← HP.out]; exact he
          · exact HV.out.2 j (by omega))
        clear he
        go_wp2_with fail
        refine HQ.out.mono ?_
        rintro e w5 ⟨rfl, hb5⟩
        have HB5 := Lib.hid (HV.out.1.trans (hb5.mono HV.out.1.size))
        clear hb5 h1 h2
        go_wp2
        go_roundw
        case rel => exact ⟨i + 1, by go_num, by omega, Lib.hid ⟨HB5.out, HN.out⟩⟩
        case measure => simp [intOf]; omega
    · obtain rfl : i = n := by omega
      have HH := Lib.hid (hasS_none (ss := ss) (c := x) (fun j hj => HV.out.2 j (by have := HL.out; omega)))
      go_wp2
      go_ret
      exact ⟨-1, rfl, by rw [HH.out]; rfl, HV.out.1⟩
theorem conSpare_any (ao : Option Addr) (n c : Nat) (x : Int) (g : Nat) (ss : List (Int × Int)) (w : World) (h : SpAt w (.slice ao n c) ss) (hc : w.cell? ⟨g, 0, none⟩ = some (.int .i64 x)) :
    Calls Try.prog 116 #[.slice ao n c, .func (.func 117) #[] #[.pointer (some ⟨g, 0, none⟩)]] w fun e w' => e = .returned (.bool (hasS ss x)) ∧ Below w.heap.size w w' := by
  have HI := Lib.hid (idxSpare_any ao n c x g ss w h hc)
  clear h hc
  go_enter Try.func116, Try.ntmps116
  go_wp2_with fail
  refine HI.out.mono ?_
  rintro e w2 ⟨z, rfl, hz, hb⟩
  have HB := Lib.hid hb
  have HZ := Lib.hid hz
  clear hb hz
  go_wp2
  go_ret
  exact ⟨by rw [HZ.out]; rfl, HB.out⟩
section
variable {B A b N : Nat} {so : Option Addr} {sn sc : Nat} {ks : List Kn} {ss : List (Int × Int)} {k m : Int}
theorem isSpare_fv (x : Int) (w : World) (h : FV w B A b (.slice so sn sc) N ks ss k m) :
    Calls Try.prog 74 #[.pointer (some ⟨A, 0, none⟩), .int .i64 x] w fun e w' => e = .returned (.bool (hasS ss x)) ∧ Below w.heap.size w w' := by
  have hx := boxed_below w (.cells #[.int .i64 x] 3)
  have n1 := BX.new w 3 #[.int .i64 x]
  obtain ⟨W1, hW1⟩ : ∃ W, W = w.alloc (.cells #[.int .i64 x] 3) := ⟨_, rfl⟩
  rw [← hW1] at hx n1
  have hm1 := h.keep hx
  have hsl : sn = ss.length := by
    rcases hm1.sp.2 with ⟨e, hz⟩ | ⟨g, cap, cur, e, _⟩
    · injection e with _ e _; omega
    · injection e with _ e _
  have HC := Lib.hid (conSpare_any so sn sc x w.heap.size ss W1 (sp_at hm1.sp rfl) (n1.cell 0 rfl))
  have c1 : W1.cell? ⟨A, 1, none⟩ = some (.slice so sn sc) := hm1.view.cell 1 rfl
  have HX := Lib.hid hx
  have HW := Lib.hid hW1
  clear hx hW1 h hm1 n1 hsl
  go_enter Try.func74, Try.ntmps74
  go_upto_region 1 with fail
  rw [← HW.out]
  clear HW
  go_wp2_with fail
  refine HC.out.mono ?_
  rintro e w2 ⟨rfl, hb⟩
  have HB := Lib.hid (HX.out.trans (hb.mono HX.out.size))
  clear hb
  go_wp2
  go_ret
  exact ⟨rfl, HB.out⟩
end
end Go.Proofs.Ytdbklklmpnlinaa
