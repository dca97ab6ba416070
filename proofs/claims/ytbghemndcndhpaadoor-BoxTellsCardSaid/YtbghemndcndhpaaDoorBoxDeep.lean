/- bowerref05.Deep: how deep an item's box would be. Condition: at most 2^30 items and bytes. -/
import Derived.Test.YtbghemndcndhpaaDoorBoxLight
namespace Go.Proofs.YtbghemndcndhpaaDoor
open Go.RowKit

/-- An item in a block of its own. -/
def Four (w : World) (g : Nat) (k n : Int) (s : ByteArray) (u : Value) : Prop := w.heap[g]? = some (.cells #[.int .i64 k, .int .u64 n, .string s, u] 25 (0, 0))
section
variable {w w' : World} {g i : Nat} {k n : Int} {s : ByteArray} {u u' : Value}
theorem Four.lt (h : Four w g k n s u) : g < w.heap.size := lt_of_block h
theorem Four.c0 (h : Four w g k n s u) : w.cell? ⟨g, 0, none⟩ = some (.int .i64 k) := by unfold Four at h; simp [World.cell?, h]
theorem Four.c1 (h : Four w g k n s u) : w.cell? ⟨g, 1, none⟩ = some (.int .u64 n) := by unfold Four at h; simp [World.cell?, h]
theorem Four.c2 (h : Four w g k n s u) : w.cell? ⟨g, 2, none⟩ = some (.string s) := by unfold Four at h; simp [World.cell?, h]
theorem Four.c3 (h : Four w g k n s u) : w.cell? ⟨g, 3, none⟩ = some u := by unfold Four at h; simp [World.cell?, h]
theorem Four.f (h : Four w g k n s u) : w.frozen? ⟨g, i, none⟩ = false := by unfold Four at h; simp [World.frozen?, h]
theorem Four.alloc (w : World) (k n : Int) (s : ByteArray) (u : Value) : Four (w.alloc (.cells #[.int .i64 k, .int .u64 n, .string s, u] 25)) w.heap.size k n s u := heap_alloc_new _ _
theorem Four.keep (h : Four w g k n s u) (hb : Below w.heap.size w w') : Four w' g k n s u := by
  unfold Four at *
  rw [hb.block g (lt_of_block h)]
  exact h
theorem Four.set3 (h : Four w g k n s u) : Four (w.setCell ⟨g, 3, none⟩ u') g k n s u' := by
  unfold Four at *
  have hlt := lt_of_block h
  have h' : w.heap[g] = .cells #[.int .i64 k, .int .u64 n, .string s, u] 25 (0, 0) := by simpa [Array.getElem?_eq_getElem hlt] using h
  show (w.heap.modify g _)[g]? = _
  rw [Array.getElem?_eq_getElem (by simpa using hlt), Array.getElem_modify_self, h']
  rfl
end

theorem maxD_len (l : List Bx) : maxD l ≤ wL l := by
  have h : ∀ b : Bx, deepB b ≤ wB b := by
    intro b
    induction b using Bx.ind with
    | h0 => simp [deepB]
    | h1 b => simp [deepB]
    | h2 n => simp [deepB]
    | h3 s => simp [deepB]
    | h4 l ih =>
      rw [deepB, wB]
      have : maxD l ≤ wL l := by
        induction l with
        | nil => simp [maxD]
        | cons b l ih2 =>
          rw [maxD, wL]
          have h1 := ih b List.mem_cons_self
          have h2 := ih2 (fun y hy => ih y (List.mem_cons_of_mem _ hy))
          omega
      omega
  induction l with
  | nil => simp [maxD]
  | cons b l ih2 =>
    rw [maxD, wL]
    have h1 := h b
    omega

theorem wL_bxIs (l : List Itm) : wL (bxIs l) ≤ wIs l := wIs_bx (fun x _ => w_bx x)

theorem bxIs_len (l : List Itm) : (bxIs l).length = l.length := by rw [bxIs_map, List.length_map]

def DeepOk (x : Itm) : Prop := ∀ (S : Nat → Prop) (v : Value) (w : World), Sits S w x v → wI x ≤ 1073741824 →
  Calls Tryd.prog 20 #[v] w fun e w' => e = .returned (.int .i64 (deepB (bxI x) : Nat)) ∧ Below w.heap.size w w'

theorem deep_bx (k n : Int) (s : ByteArray) (l : List Itm) : deepB (bxI (.mk k n s l)) = if k = 4 then maxD (bxIs l) + 1 else 0 := by
  rw [bxI]
  by_cases h1 : k = 1
  · rw [if_pos h1, deepB, if_neg (by omega)]
  rw [if_neg h1]
  by_cases h2 : k = 2
  · rw [if_pos h2, deepB, if_neg (by omega)]
  rw [if_neg h2]
  by_cases h3 : k = 3
  · rw [if_pos h3, deepB, if_neg (by omega)]
  rw [if_neg h3]
  by_cases h4 : k = 4
  · rw [if_pos h4, deepB, if_pos h4]
  · rw [if_neg h4, deepB, if_neg h4]

set_option maxHeartbeats 4000000 in
set_option maxRecDepth 100000 in
theorem deep_step (k n : Int) (s : ByteArray) (l : List Itm) (ih : ∀ x ∈ l, DeepOk x) : DeepOk (.mk k n s l) := by
  intro S v w hs hw
  rw [Sits] at hs
  obtain ⟨ao, c, rfl, hc, hsl⟩ := hs
  rw [deep_bx]
  rw [wI] at hw
  have hml : maxD (bxIs l) ≤ 1073741824 := Nat.le_trans (maxD_len _) (Nat.le_trans (wL_bxIs l) (by omega))
  obtain ⟨N, hN⟩ : ∃ N, N = l.length := ⟨_, rfl⟩
  rw [← hN] at hc ⊢
  have HB0 := Lib.hid (one_alloc w (.cells #[.int .i64 k, .int .u64 n, .string s, .slice ao N c] 25)).2
  have hf0 := Four.alloc w k n s (.slice ao N c)
  by_cases hk : k = 4
  · subst hk
    have HTK := Lib.hid (fun i (hi : i < (bxIs l).length) => maxD_take (bxIs l) i hi)
    have HTL := Lib.hid (fun i => maxD_le_take (bxIs l) i)
    have HFL : Hid (maxD ((bxIs l).take N) = maxD (bxIs l)) := Lib.hid (by rw [hN, ← bxIs_len, List.take_length])
    have HM := Lib.hid (bxIs_map l)
    have HLN := Lib.hid (bxIs_len l)
    generalize bxIs l = bs at *
    have HN := Lib.hid hN
    have HSL := Lib.hid hsl
    have HIH := Lib.hid ih
    have HWI := Lib.hid (show ∀ x ∈ l, wI x ≤ 1073741824 from fun x hx => by have := wIs_mem hx; omega)
    have HF0 := Lib.hid hf0
    have hNw : N ≤ 1073741824 := by have := wIs_len l; omega
    have HR : Hid ((if (4 : Int) = 4 then maxD bs + 1 else 0) = maxD bs + 1) := Lib.hid (if_pos rfl)
    rw [HR.out]
    clear hN hsl ih hw hf0 HR
    go_enter Tryd.func20, Tryd.ntmps20
    go_wp2
    obtain ⟨W1, hW1⟩ : ∃ W1, W1 = w.alloc (.cells #[.int .i64 4, .int .u64 n, .string s, .slice ao N c] 25) := ⟨_, rfl⟩
    have HW1 := Lib.hid hW1
    have HF1 : Hid (Four W1 w.heap.size 4 n s (.slice ao N c)) := by rw [hW1]; exact HF0
    have HB1 : Hid (Below w.heap.size w W1) := by rw [hW1]; exact HB0
    clear HF0 HB0 hW1
    go_loopw [3, 4] (fun sd si wr => ∃ i : Nat, si = .int .i64 i ∧ i ≤ N ∧ sd = .int .i64 (maxD (bs.take i) : Nat) ∧ Hid (Below W1.heap.size W1 wr)) (fun _ si _ => N - (intOf si).toNat)
    case atStart => exact ⟨0, rfl, Nat.zero_le _, by simp [maxD], by rw [← HW1.out]; exact Lib.hid (Below.refl _ _)⟩
    case round =>
      obtain ⟨i, rfl, hi, rfl, hR⟩ := hrel
      have hf := HF1.out.keep hR.out
      have e0 := hf.c0
      have e3 := hf.c3
      have hbw : Below w.heap.size w wr := HB1.out.trans (hR.out.mono HB1.out.size)
      clear hf
      by_cases hlt : i < N
      · have hil : i < l.length := by rw [← HN.out]; exact hlt
        obtain ⟨b, o, k', n', s', ao', len', c', rfl, c0, c1, c2, c3, hx⟩ := item_at HSL.out hbw i hil
        have hst := HTK.out i (by rw [HLN.out]; exact hil)
        have hbi : bs[i]'(by rw [HLN.out]; exact hil) = bxI l[i] := by
          have := HM.out
          subst this
          rw [List.getElem_map]
        rw [hbi] at hst
        have h1 := HTL.out i
        have h2 := HTL.out (i + 1)
        have HC := Lib.hid (HIH.out l[i] (List.getElem_mem hil) S _ _ hx (HWI.out _ (List.getElem_mem hil)))
        have hmx : deepB (bxI l[i]) ≤ 1073741824 := by omega
        have HST := Lib.hid hst
        obtain ⟨d, hd⟩ : ∃ d, d = deepB (bxI l[i]) := ⟨_, rfl⟩
        rw [← hd] at HC HST hmx
        have HBW := Lib.hid hbw
        have h3 : maxD (bs.take i) ≤ 1073741824 := by omega
        clear hx hst hbi hd h1 h2 hbw
        obtain ⟨ma, hma⟩ : ∃ ma, ma = maxD (bs.take i) := ⟨_, rfl⟩
        rw [← hma] at HST h3 ⊢
        clear hma
        go_wp2_with fail
        refine HC.out.mono ?_
        rintro e w2 ⟨rfl, hb2⟩
        have H := Lib.hid (hR.out.trans (hb2.mono hR.out.size))
        clear hb2
        by_cases hcm : d ≤ ma
        · have hc2 : (d : Int) ≤ ma := by omega
          go_wp2
          all_goals first | (exfalso; omega) | skip
          go_roundw
          case rel => exact ⟨i + 1, by go_num, by omega, by rw [HST.out]; congr 1; omega, H⟩
          case measure => simp [intOf]; omega
        · have hc2 : (ma : Int) < d := by omega
          go_wp2
          all_goals first | (exfalso; omega) | skip
          go_roundw
          case rel => exact ⟨i + 1, by go_num, by omega, by rw [HST.out]; congr 1; omega, H⟩
          case measure => simp [intOf]; omega
      · obtain rfl : i = N := by omega
        rw [HFL.out]
        have HBW := Lib.hid hbw
        clear hbw
        obtain ⟨d, hd⟩ : ∃ d, d = maxD bs := ⟨_, rfl⟩
        rw [← hd] at hml
        have HD := Lib.hid hd
        rw [← hd]
        clear hd
        go_wp2
        go_ret
        exact ⟨by rw [← HD.out]; congr 2, HBW.out⟩
  · have hkk : (k == 4) = false := by simpa using hk
    have HR : Hid ((if k = 4 then maxD (bxIs l) + 1 else 0) = 0) := Lib.hid (if_neg hk)
    rw [HR.out]
    clear hN hsl ih hw hf0 HR hml hk
    go_enter Tryd.func20, Tryd.ntmps20
    go_wp2
    go_loopw [3, 4] (fun sd si wr => si = .int .i64 0 ∧ sd = .int .i64 0 ∧ wr = w.alloc (.cells #[.int .i64 k, .int .u64 n, .string s, .slice ao N c] 25)) (fun _ si _ => 0)
    case atStart => exact ⟨rfl, rfl, rfl⟩
    case round =>
      obtain ⟨rfl, rfl, rfl⟩ := hrel
      by_cases hN0 : 0 < N
      · go_wp2
        go_ret
        exact ⟨rfl, HB0.out⟩
      · obtain rfl : N = 0 := by omega
        go_wp2
        go_ret
        exact ⟨rfl, HB0.out⟩

theorem refdeep_any (x : Itm) : DeepOk x := by
  induction x using Itm.ind with
  | h k n s l ih => exact deep_step k n s l ih
end Go.Proofs.YtbghemndcndhpaaDoor
