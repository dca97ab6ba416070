/- bowerlaw05.lives tells true. Condition: the table of powers of ten is laid. -/
import Derived.Test.YtbghemndcndhpaaDoorBoxShowA
namespace Go.Proofs.YtbghemndcndhpaaDoor
open Go.RowKit

theorem BoxIs.numv {S : Nat → Prop} {w : World} {n : Nat} {v : Value} (h : BoxIs S w (.number n) v) : v = .iface 22 (.int .u64 n) := by rw [BoxIs] at h; exact h
theorem BoxIs.nilv {S : Nat → Prop} {w : World} {v : Value} (h : BoxIs S w .nothing v) : v = .nilIface := by rw [BoxIs] at h; exact h

def exB : Bx := .list [.number 7, .text ⟨#[97]⟩, .nothing, .list []]

theorem cells4 (w : World) (a b c d : Value) (t : TypeId) (j : Nat) (hj : j < [a, b, c, d].length) : (w.alloc (.cells #[a, b, c, d] t)).cell? ⟨w.heap.size, 0 + j, none⟩ = some [a, b, c, d][j] := by
  have h := heap_alloc_new w (.cells #[a, b, c, d] t)
  rw [World.cell?, h]
  match j, hj with
  | 0, _ => rfl
  | 1, _ => rfl
  | 2, _ => rfl
  | 3, _ => rfl

theorem exB_show : showB exB = [91, 55, 32, 34, 97, 34, 32, 45, 32, 91, 93, 93] := by
  unfold exB
  simp only [showB, showL]
  have h1 : Lib.decDigits 7 = [55] := by rw [Lib.decDigits_one (by omega)]; rfl
  have h2 : put (⟨#[97]⟩ : ByteArray).data.toList = [34, 97, 34] := by
    show put [97] = _
    have d : (dec [97]).2 = 1 := by decide +kernel
    unfold put
    rw [qs_cons (by simp), d, show ([97] : List UInt8).drop 1 = [] from rfl, qs_nil, show q [97] = [97] by decide +kernel]
    rfl
  rw [h1, h2]
  rfl

set_option maxHeartbeats 4000000 in
set_option maxRecDepth 100000 in
theorem lives_any (w : World) (ht : Tab w.heap.size w) :
    Calls Tryd.prog 7 #[] w fun e w' => e = .returned (.bool true) ∧ Below w.heap.size w w' := by
  go_enter Tryd.func7, Tryd.ntmps7
  go_wp2_with fail
  refine (newnumber_any (fun _ => False) 7 w).mono ?_
  rintro e w1 ⟨v, rfl, hv, hb1⟩
  rw [BoxIs] at hv
  subst hv
  have HB1 := Lib.hid hb1
  clear hb1
  go_wp2_with fail
  refine (newtext_any (fun _ => False) ⟨#[97]⟩ w1).mono ?_
  rintro e w2 ⟨v, rfl, hv, hb2⟩
  rw [BoxIs] at hv
  subst hv
  have HB2 := Lib.hid (HB1.out.trans (hb2.mono HB1.out.size))
  clear hb2 HB1
  go_wp2_with fail
  refine (newlist_any (fun _ => False) (.slice none 0 0) [] w2 ⟨[], Rd.nil _, rfl, fun i h => absurd h (by simp)⟩ (by simp [maxD]) (by simp)).mono ?_
  rintro e w3 ⟨v, rfl, hv, hb3⟩
  rw [if_neg (by simp [maxD])] at hv
  have hv3 := hv.mono (T := fun k => k < w3.heap.size) (fun k hk => by rcases hk with h | h; exact h.elim; exact h.2)
  have HB3 := Lib.hid (HB2.out.trans (hb3.mono HB2.out.size))
  clear hb3 HB2 hv
  have HV3 := Lib.hid hv3
  rw [BoxIs] at hv3
  obtain ⟨g3, hg3, _, _⟩ := hv3
  have hg3' : v = .iface 58 (.agg #[.slice (some ⟨g3, 0, none⟩) 0 0, .int .i64 1]) := hg3
  clear hg3
  subst hg3'
  have hr4 : RdB (fun k => k < w3.heap.size) (w3.alloc (.cells #[.iface 22 (.int .u64 7), .iface 9 (.string ⟨#[97]⟩), .nilIface, .iface 58 (.agg #[.slice (some ⟨g3, 0, none⟩) 0 0, .int .i64 1])] 29)) (.slice (some ⟨w3.heap.size, 0, none⟩) 4 4) [.number 7, .text ⟨#[97]⟩, .nothing, .list []] := by
    refine ⟨[.iface 22 (.int .u64 7), .iface 9 (.string ⟨#[97]⟩), .nilIface, .iface 58 (.agg #[.slice (some ⟨g3, 0, none⟩) 0 0, .int .i64 1])], ⟨_, _, rfl, Nat.le_refl _, by simp, fun _ => ⟨_, _, rfl, cells4 w3 _ _ _ _ _⟩⟩, rfl, fun i h h2 => ?_⟩
    match i, h, h2 with
    | 0, _, _ => show BoxIs _ _ (.number 7) _; rw [BoxIs]; rfl
    | 1, _, _ => show BoxIs _ _ (.text _) _; rw [BoxIs]; rfl
    | 2, _, _ => show BoxIs _ _ .nothing _; rw [BoxIs]; rfl
    | 3, _, _ => exact HV3.out.below (alloc_below _ _)
  have HR4 := Lib.hid hr4
  have HB4 := Lib.hid (HB3.out.alloc HB3.out.size (.cells #[.iface 22 (.int .u64 7), .iface 9 (.string ⟨#[97]⟩), .nilIface, .iface 58 (.agg #[.slice (some ⟨g3, 0, none⟩) 0 0, .int .i64 1])] 29))
  clear hr4 HB3
  go_wp2_with fail
  refine (newlist_any _ _ _ _ HR4.out (by decide) (by decide)).mono ?_
  rintro e w5 ⟨v, rfl, hv, hb5⟩
  rw [if_neg (by decide)] at hv
  have hw35 : w3.heap.size ≤ w5.heap.size := by have := hb5.size; simp at this; omega
  have hv5 := hv.mono (T := fun k => k < w5.heap.size) (fun k hk => by rcases hk with h | h; exact Nat.lt_of_lt_of_le h hw35; exact h.2)
  have HB5 := Lib.hid (HB4.out.trans (hb5.mono HB4.out.size))
  clear hb5 HB4 hv HR4 HV3 hw35
  have hs5 : w5.heap.size ≤ w5.heap.size := Nat.le_refl _
  have HV5 := Lib.hid hv5
  rw [BoxIs] at hv5
  obtain ⟨g5, hg5, hg5l, _⟩ := hv5
  have HV6 : Hid (BoxIs (fun k => k < w5.heap.size) (w5.alloc (.cells #[v] 29)) exB v) := Lib.hid (HV5.out.below (alloc_below _ _))
  have HB6 := Lib.hid (HB5.out.alloc HB5.out.size (.cells #[v] 29))
  have O6 : One (w5.alloc (.cells #[v] 29)) w5.heap.size v 29 := One.alloc _ _ _
  have hg5' : v = .iface 58 (.agg #[.slice (some ⟨g5, 0, none⟩) 4 4, .int .i64 2]) := hg5
  clear hg5
  subst hg5'
  have HO6 := Lib.hid O6
  clear hg5l HV5 O6 HB5
  have HSZ := Lib.hid (show w5.heap.size ≤ (w5.alloc (.cells #[.iface 58 (.agg #[.slice (some ⟨g5, 0, none⟩) 4 4, .int .i64 2])] 29)).heap.size by simp)
  obtain ⟨w6, hw6⟩ : ∃ w6, w6 = w5.alloc (.cells #[.iface 58 (.agg #[.slice (some ⟨g5, 0, none⟩) 4 4, .int .i64 2])] 29) := ⟨_, rfl⟩
  have HV6' : Hid (BoxIs (fun k => k < w5.heap.size) w6 exB (.iface 58 (.agg #[.slice (some ⟨g5, 0, none⟩) 4 4, .int .i64 2]))) := by rw [hw6]; exact HV6
  have HB6' : Hid (Below w.heap.size w w6) := by rw [hw6]; exact HB6
  have HO6' : Hid (One w6 w5.heap.size (.iface 58 (.agg #[.slice (some ⟨g5, 0, none⟩) 4 4, .int .i64 2])) 29) := by rw [hw6]; exact HO6
  have HSZ' : Hid (w5.heap.size ≤ w6.heap.size) := by rw [hw6]; exact HSZ
  have c0 := HO6'.out.c
  clear HV6 HB6 HO6 HSZ hs5
  have HL := Lib.hid (listOf_any _ _ _ _ HV6'.out (fun l h => by injection h with h; subst h; decide))
  go_wp2_with fail
  rw [← hw6]
  clear hw6
  refine HL.out.mono ?_
  rintro e w7 h7
  obtain ⟨l, g7, xs, el, rfl, hg7, hW7, hxl, hx7, hb7⟩ | ⟨h, _⟩ := h7
  rotate_left
  · exact absurd rfl (h _)
  injection el with el
  subst el
  have x0 := BoxIs.numv (n := 7) (hx7 0 (by decide) (by rw [hxl]; decide))
  have x2 := BoxIs.nilv (hx7 2 (by decide) (by rw [hxl]; decide))
  have d0 := hW7.cell 0
  have d2 := hW7.cell 2
  rw [List.getElem?_eq_getElem (by rw [hxl]; decide)] at d0 d2
  rw [x0] at d0
  rw [x2] at d2
  have HX0 := Lib.hid x0
  have HW7 := Lib.hid (show w7.cell? ⟨g7, 0, none⟩ = _ ∧ w7.cell? ⟨g7, 2, none⟩ = _ from ⟨d0, d2⟩)
  have HO7 := Lib.hid (HO6'.out.keep hb7)
  have HV7 := Lib.hid (HV6'.out.below hb7)
  have HB7 := Lib.hid (HB6'.out.trans (hb7.mono HB6'.out.size))
  have HG7 := Lib.hid (lt_of_block hW7)
  have HSZ7 := Lib.hid (Nat.le_trans HSZ'.out hb7.size)
  clear hb7 hx7 x0 x2 d2 c0 hxl HX0 hg7 hW7
  go_wp2_with fail
  refine (numOf_any (fun _ => False) (.number 7) _ w7 (by rw [BoxIs]; rfl)).mono ?_
  rintro e w8 ⟨rfl, hb8⟩
  simp only [numOf]
  have HW8 := Lib.hid (show w8.cell? ⟨g7, 0, none⟩ = _ ∧ w8.cell? ⟨g7, 2, none⟩ = _ from ⟨(hb8.cell (p := ⟨g7, 0, none⟩) HG7.out).trans HW7.out.1, (hb8.cell (p := ⟨g7, 2, none⟩) HG7.out).trans HW7.out.2⟩)
  have HO8 := Lib.hid (HO7.out.keep hb8)
  have HV8 := Lib.hid (HV7.out.below hb8)
  have HB8 := Lib.hid (HB7.out.trans (hb8.mono HB7.out.size))
  have HG8 := Lib.hid (Nat.lt_of_lt_of_le HG7.out hb8.size)
  have HSZ8 := Lib.hid (Nat.le_trans HSZ7.out hb8.size)
  clear hb8 HW7 HO7 HV7 HB7 HSZ7 d0
  have c0 := HO8.out.c
  go_wp2_with fail
  refine (shown_any _ _ _ w8 HV8.out (fun k hk => Nat.lt_of_lt_of_le hk HSZ8.out) (by simp [exB, okB, okL]) ((ht.below HB8.out).at_ HB8.out.size) (by decide)).mono ?_
  rintro e w9 ⟨rfl, hb9⟩
  rw [exB_show]
  have HW9 := Lib.hid (show w9.cell? ⟨g7, 0, none⟩ = _ ∧ w9.cell? ⟨g7, 2, none⟩ = _ from ⟨(hb9.cell (p := ⟨g7, 0, none⟩) HG8.out).trans HW8.out.1, (hb9.cell (p := ⟨g7, 2, none⟩) HG8.out).trans HW8.out.2⟩)
  have HO9 := Lib.hid (HO8.out.keep hb9)
  have HV9 := Lib.hid (HV8.out.below hb9)
  have HB9 := Lib.hid (HB8.out.trans (hb9.mono HB8.out.size))
  have HG9 := Lib.hid (Nat.lt_of_lt_of_le HG8.out hb9.size)
  clear hb9 HW8 HO8 HV8 HB8 c0 HG8 HSZ8
  have c0 := HO9.out.c
  have htx : (txt [91, 55, 32, 34, 97, 34, 32, 45, 32, 91, 93, 93]).toList = [91, 55, 32, 34, 97, 34, 32, 45, 32, 91, 93, 93] := by rw [ByteArray.toList_eq, txt_data]
  go_wp2_with fail
  refine (kind_any _ _ _ w9 HV9.out).mono ?_
  rintro e w10 ⟨rfl, hb10⟩
  have d2 := (hb10.cell (p := ⟨g7, 2, none⟩) HG9.out).trans HW9.out.2
  have HO10 := Lib.hid (HO9.out.keep hb10)
  have HV10 := Lib.hid (HV9.out.below hb10)
  have HB10 := Lib.hid (HB9.out.trans (hb10.mono HB9.out.size))
  clear hb10 HW9 HO9 HV9 HB9 c0 HG9
  go_wp2_with fail
  refine (kind_any (fun _ => False) .nothing _ w10 (by rw [BoxIs])).mono ?_
  rintro e w11 ⟨rfl, hb11⟩
  have HO11 := Lib.hid (HO10.out.keep hb11)
  have HV11 := Lib.hid (HV10.out.below hb11)
  have HB11 := Lib.hid (HB10.out.trans (hb11.mono HB10.out.size))
  clear hb11 HO10 HV10 HB10 d2
  have c0 := HO11.out.c
  go_wp2_with fail
  refine (deep_any _ _ _ w11 HV11.out).mono ?_
  rintro e w12 ⟨rfl, hb12⟩
  have HB12 := Lib.hid (HB11.out.trans (hb12.mono HB11.out.size))
  clear hb12
  go_wp2
  go_ret
  exact ⟨rfl, HB12.out⟩
end Go.Proofs.YtbghemndcndhpaaDoor
