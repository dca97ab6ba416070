/- bowerlaw05.size, bowerlaw05.Light: an item that is light has at most 2000 items and bytes. Condition: texts of at most 2^63 - 1 bytes. -/
import Derived.Test.YtbghemndcndhpaaDoorBoxLaw
namespace Go.Proofs.YtbghemndcndhpaaDoor
open Go.RowKit

theorem wIs_take (l : List Itm) (i : Nat) (hi : i < l.length) : wIs (l.take (i + 1)) = wIs (l.take i) + wI l[i] := by
  induction l generalizing i with
  | nil => simp at hi
  | cons b l ih =>
    cases i with
    | zero => simp [wIs]
    | succ i =>
      rw [List.take_succ_cons, List.take_succ_cons, wIs, wIs, ih i (by simpa using hi)]
      simp only [List.getElem_cons_succ]
      omega

def LSizeGives (w w' : World) (e : Ending) (x : Itm) (left : Int) : Prop := ∃ r : Int, e = .returned (.int .i64 r) ∧ (-9223372036854775808 ≤ r ∧ r ≤ 2000) ∧ (0 ≤ r → wI x + r = left) ∧ Below w.heap.size w w'

def LSizeOk (x : Itm) : Prop := ∀ (S : Nat → Prop) (v : Value) (left deep : Int) (w : World), Sits S w x v → okI x → (0 ≤ left ∧ left ≤ 2000) → (0 ≤ deep ∧ deep ≤ 60) →
  Calls Tryd.prog 26 #[v, .int .i64 left, .int .i64 deep] w fun e w' => LSizeGives w w' e x left

/-- The cells of an item of a list. -/
theorem item_at {S : Nat → Prop} {w wr : World} {l : List Itm} {ao : Option Addr} (h : l = [] ∨ ∃ b o, ao = some ⟨b, o, none⟩ ∧ S b ∧ SitsL S w b o l) (hb : Below w.heap.size w wr) (i : Nat) (hi : i < l.length) :
    ∃ b o k n s ao' len c, ao = some ⟨b, o, none⟩ ∧ wr.cell? ⟨b, o + i * 4, none⟩ = some (.int .i64 k) ∧ wr.cell? ⟨b, o + i * 4 + 1, none⟩ = some (.int .u64 n) ∧ wr.cell? ⟨b, o + i * 4 + 2, none⟩ = some (.string s) ∧ wr.cell? ⟨b, o + i * 4 + 3, none⟩ = some (.slice ao' len c) ∧ Sits S wr l[i] (.agg #[.int .i64 k, .int .u64 n, .string s, .slice ao' len c]) := by
  obtain h0 | ⟨b, o, rfl, hSb, hsl⟩ := h
  · rw [h0] at hi; simp at hi
  obtain ⟨v0, v1, v2, v3, q0, q1, q2, q3, hx⟩ := hsl.at_ i hi
  have hbl : b < w.heap.size := World.block_lt_of_cell? _ _ q0
  have c0 := (hb.cell (p := ⟨b, o + i * 4, none⟩) hbl).trans q0
  have c1 := (hb.cell (p := ⟨b, o + i * 4 + 1, none⟩) hbl).trans q1
  have c2 := (hb.cell (p := ⟨b, o + i * 4 + 2, none⟩) hbl).trans q2
  have c3 := (hb.cell (p := ⟨b, o + i * 4 + 3, none⟩) hbl).trans q3
  have hx' := hx.below hb
  have hx2 := hx
  generalize hli : l[i] = y at hx2
  obtain ⟨k', n', s', l'⟩ := y
  rw [Sits] at hx2
  obtain ⟨ao', c', hv, _⟩ := hx2
  simp only [Value.agg.injEq, Array.mk.injEq, List.cons.injEq, and_true] at hv
  obtain ⟨rfl, rfl, rfl, rfl⟩ := hv
  rw [hli] at hx'
  exact ⟨b, o, _, _, _, _, _, _, rfl, c0, c1, c2, c3, hx'⟩

set_option maxHeartbeats 4000000 in
set_option maxRecDepth 100000 in
theorem lsize_step (k n : Int) (s : ByteArray) (l : List Itm) (ih : ∀ x ∈ l, LSizeOk x) : LSizeOk (.mk k n s l) := by
  intro S v left deep w hs hok hleft hdeep
  rw [Sits] at hs
  obtain ⟨ao, c, rfl, hc, hsl⟩ := hs
  rw [okI, okIs_iff] at hok
  have hss := hok.2.1
  have HW : Hid (wI (.mk k n s l) = 1 + s.size + wIs l) := Lib.hid (by rw [wI])
  obtain ⟨N, hN⟩ : ∃ N, N = l.length := ⟨_, rfl⟩
  rw [← hN] at hc ⊢
  have HN := Lib.hid hN
  have HSL := Lib.hid hsl
  have HOK := Lib.hid hok.2.2
  have HIH := Lib.hid ih
  have HTK := Lib.hid (wIs_take l)
  have HFL : Hid (wIs (l.take N) = wIs l) := Lib.hid (by rw [hN, List.take_length])
  have HB0 := Lib.hid (one_alloc w (.cells #[.int .i64 k, .int .u64 n, .string s, .slice ao N c] 25)).2
  obtain ⟨R, hR⟩ : ∃ R : Itm, R = .mk k n s l := ⟨_, rfl⟩
  rw [← hR] at HW ⊢
  clear hN hsl hok ih hR
  by_cases hd : deep = 0
  · subst hd
    go_enter Tryd.func26, Tryd.ntmps26
    go_wp2
    go_ret
    exact ⟨-1, rfl, by omega, fun h => by omega, HB0.out⟩
  · have hd0 : (deep == 0) = false := by simpa using hd
    go_enter Tryd.func26, Tryd.ntmps26
    go_wp2
    go_loopw [1, 20] (fun sl si wr => ∃ (i : Nat) (li : Int), si = .int .i64 i ∧ i ≤ N ∧ sl = .int .i64 li ∧ (-9223372036854775808 ≤ li ∧ li ≤ 2000) ∧ Hid ((0 ≤ li → li + 1 + s.size + wIs (l.take i) = left) ∧ Below w.heap.size w wr)) (fun _ si _ => N - (intOf si).toNat)
    case atStart =>
      refine ⟨0, left - 1 - s.size, rfl, Nat.zero_le _, ?_, by omega, Lib.hid ⟨fun _ => by simp [wIs]; omega, HB0.out⟩⟩
      go_num
    case round =>
      obtain ⟨i, li, rfl, hi, rfl, hli, hR⟩ := hrel
      by_cases hlt : i < N
      · have hil : i < l.length := by rw [← HN.out]; exact hlt
        obtain ⟨b, o, k', n', s', ao', len', c', rfl, c0, c1, c2, c3, hx⟩ := item_at HSL.out hR.out.2 i hil
        have HTI := Lib.hid (HTK.out i hil)
        have HI := Lib.hid (HIH.out l[i] (List.getElem_mem hil))
        have HO := Lib.hid (HOK.out l[i] (List.getElem_mem hil))
        have HX := Lib.hid (hx.below (one_alloc wr (.cells #[.int .i64 k', .int .u64 n', .string s', .slice ao' len' c'] 25)).2)
        have HBA := Lib.hid (hR.out.2.trans ((one_alloc wr (.cells #[.int .i64 k', .int .u64 n', .string s', .slice ao' len' c'] 25)).2.mono hR.out.2.size))
        obtain ⟨y, hy⟩ : ∃ y, y = l[i] := ⟨_, rfl⟩
        rw [← hy] at HTI HI HO HX
        clear hx hy hil
        by_cases hneg : li < 0
        · go_wp2
          go_ret
          exact ⟨-1, rfl, by omega, fun h => by omega, HBA.out⟩
        · have HC := Lib.hid (HI.out S _ li (deep - 1) _ HX.out HO.out (by omega) (by omega))
          go_wp2_with fail
          refine HC.out.mono ?_
          rintro e w2 ⟨r, rfl, hr, hrw, hb2⟩
          have H := Lib.hid (show (0 ≤ r → r + 1 + s.size + wIs (l.take (i + 1)) = left) ∧ Below w.heap.size w w2 from ⟨fun h => by have h1 := hrw h; have h2 := hR.out.1 (by omega); rw [HTI.out]; omega, HBA.out.trans (hb2.mono HBA.out.size)⟩)
          clear hb2 hrw
          go_wp2
          go_roundw
          case rel => exact ⟨i + 1, r, by go_num, by omega, rfl, hr, H⟩
          case measure => simp [intOf]; omega
      · obtain rfl : i = N := by omega
        go_wp2
        go_ret
        exact ⟨li, rfl, hli, fun h => by have h1 := hR.out.1 h; rw [HFL.out] at h1; rw [HW.out]; omega, hR.out.2⟩

theorem lsize_any (x : Itm) : LSizeOk x := by
  induction x using Itm.ind with
  | h k n s l ih => exact lsize_step k n s l ih

def LightGives (w w' : World) (e : Ending) (x : Itm) : Prop := ∃ b : Bool, e = .returned (.bool b) ∧ (b = true → wI x ≤ 2000) ∧ Below w.heap.size w w'

set_option maxHeartbeats 1000000 in
theorem light_any (S : Nat → Prop) (x : Itm) (v : Value) (w : World) (hs : Sits S w x v) (hok : okI x) :
    Calls Tryd.prog 6 #[v] w fun e w' => LightGives w w' e x := by
  obtain ⟨k, n, s, ao, len, c, rfl⟩ : ∃ k n s ao len c, v = .agg #[.int .i64 k, .int .u64 n, .string s, .slice ao len c] := by
    obtain ⟨k, n, s, l⟩ := x
    rw [Sits] at hs
    obtain ⟨ao, c, rfl, _⟩ := hs
    exact ⟨_, _, _, _, _, _, rfl⟩
  have hb0 := (one_alloc w (.cells #[.int .i64 k, .int .u64 n, .string s, .slice ao len c] 25)).2
  have HC := Lib.hid (lsize_any x S _ 2000 60 _ (hs.below hb0) hok (by omega) (by omega))
  have HB := Lib.hid hb0
  clear hs hok hb0
  go_enter Tryd.func6, Tryd.ntmps6
  go_wp2_with fail
  refine HC.out.mono ?_
  rintro e w2 ⟨r, rfl, hr, hrw, hb2⟩
  have H := Lib.hid (show (0 ≤ r → wI x + r = 2000) ∧ Below w.heap.size w w2 from ⟨hrw, HB.out.trans (hb2.mono (by simp))⟩)
  clear hrw hb2
  by_cases h0 : 0 ≤ r
  · have hd : decide (r ≥ 0) = true := by simpa using h0
    go_wp2
    go_ret
    exact ⟨true, by simp, fun _ => by have := H.out.1 h0; omega, H.out.2⟩
  · have hd : decide (r ≥ 0) = false := by simpa using h0
    go_wp2
    go_ret
    exact ⟨false, by simp, (fun h => by cases h), H.out.2⟩
end Go.Proofs.YtbghemndcndhpaaDoor
