/- bowerref05.Count: how many boxes of a kind an item's box is, or has in it. Conditions: each kind is one of five; at most 2^30 items and bytes. -/
import Derived.Test.YtbghemndcndhpaaDoorBoxCutL
namespace Go.Proofs.YtbghemndcndhpaaDoor
open Go.RowKit

theorem countL_take (k : Int) (bs : List Bx) (i : Nat) (hi : i < bs.length) : countL k (bs.take (i + 1)) = countL k (bs.take i) + countB k bs[i] := by
  induction bs generalizing i with
  | nil => simp at hi
  | cons b bs ih =>
    cases i with
    | zero => simp [countL]
    | succ i =>
      rw [List.take_succ_cons, List.take_succ_cons, countL, countL, ih i (by simpa using hi)]
      simp only [List.getElem_cons_succ]
      omega

theorem countL_le (k : Int) (bs : List Bx) (h : ∀ b ∈ bs, countB k b ≤ wB b) : countL k bs ≤ wL bs := by
  induction bs with
  | nil => simp [countL]
  | cons b bs ih =>
    rw [countL, wL]
    have h1 := h b List.mem_cons_self
    have h2 := ih (fun c hc => h c (List.mem_cons_of_mem _ hc))
    omega

theorem countB_le (k : Int) (b : Bx) : countB k b ≤ wB b := by
  induction b using Bx.ind with
  | h0 => simp only [countB, wB]; split <;> omega
  | h1 b => simp only [countB, wB]; split <;> omega
  | h2 n => simp only [countB, wB]; split <;> omega
  | h3 s => simp only [countB, wB]; split <;> omega
  | h4 l ih =>
    have := countL_le k l ih
    simp only [countB, wB]
    split <;> omega

theorem countL_le_take (k : Int) (bs : List Bx) (i : Nat) : countL k (bs.take i) ≤ countL k bs := by
  induction bs generalizing i with
  | nil => simp
  | cons b bs ih =>
    cases i with
    | zero => simp [countL]
    | succ i =>
      rw [List.take_succ_cons, countL, countL]
      have := ih i
      omega

theorem count_plain (k n : Int) (s : ByteArray) (l : List Itm) (kind : Int) (hk : 0 ≤ k ∧ k ≤ 4) (h4 : k ≠ 4) : countB kind (bxI (.mk k n s l)) = if k = kind then 1 else 0 := by
  rw [bxI]
  by_cases h1 : k = 1
  · subst h1; rw [if_pos rfl, countB]; simp [eq_comm]
  rw [if_neg h1]
  by_cases h2 : k = 2
  · subst h2; rw [if_pos rfl, countB]; simp [eq_comm]
  rw [if_neg h2]
  by_cases h3 : k = 3
  · subst h3; rw [if_pos rfl, countB]; simp [eq_comm]
  have h0 : k = 0 := by omega
  subst h0
  rw [if_neg h3, if_neg h4, countB]; simp [eq_comm]

def RCountOk (x : Itm) : Prop := ∀ (S : Nat → Prop) (v : Value) (kind : Int) (w : World), Sits S w x v → vI x → wI x ≤ 1073741824 →
  Calls Tryd.prog 18 #[v, .int .i64 kind] w fun e w' => e = .returned (.int .i64 (countB kind (bxI x) : Nat)) ∧ Below w.heap.size w w'

set_option maxHeartbeats 4000000 in
set_option maxRecDepth 100000 in
theorem rcount_plain (k n : Int) (s : ByteArray) (l : List Itm) (h4 : k ≠ 4) : RCountOk (.mk k n s l) := by
  intro S v kind w hs hv hw
  rw [Sits] at hs
  obtain ⟨ao, c, rfl, hc, _⟩ := hs
  rw [vI] at hv
  have HR := Lib.hid (count_plain k n s l kind hv.1 h4)
  obtain ⟨nl, hnl⟩ : ∃ nl, nl = l.length := ⟨_, rfl⟩
  rw [← hnl]
  have HB0 := Lib.hid (one_alloc w (.cells #[.int .i64 k, .int .u64 n, .string s, .slice ao nl c] 25)).2
  have e4 : (k == 4) = false := by simpa using h4
  by_cases hk : k = kind
  · have HR2 := Lib.hid (HR.out.trans (if_pos hk))
    have hd : (k == kind) = true := by simpa using hk
    clear hk hv hw hnl hc h4 HR
    go_enter Tryd.func18, Tryd.ntmps18
    go_wp2
    go_ret
    exact ⟨by rw [HR2.out]; rfl, HB0.out⟩
  · have HR2 := Lib.hid (HR.out.trans (if_neg hk))
    have hd : (k == kind) = false := by simpa using hk
    clear hk hv hw hnl hc h4 HR
    go_enter Tryd.func18, Tryd.ntmps18
    go_wp2
    go_ret
    exact ⟨by rw [HR2.out]; rfl, HB0.out⟩

set_option maxHeartbeats 4000000 in
set_option maxRecDepth 100000 in
theorem rcount_list (n : Int) (s : ByteArray) (l : List Itm) (ih : ∀ x ∈ l, RCountOk x) : RCountOk (.mk 4 n s l) := by
  intro S v kind w hs hv hw
  rw [Sits] at hs
  obtain ⟨ao, c, rfl, hc, hsl⟩ := hs
  rw [vI] at hv
  have hvl := (vIs_iff l).1 (hv.2 rfl)
  rw [wI] at hw
  have hcl : countL kind (bxIs l) ≤ 1073741824 := Nat.le_trans (countL_le kind _ (fun b _ => countB_le kind b)) (Nat.le_trans (wL_bxIs l) (by omega))
  obtain ⟨N, hN⟩ : ∃ N, N = l.length := ⟨_, rfl⟩
  rw [← hN] at hc ⊢
  have hNw : N ≤ 1073741824 := by have := wIs_len l; omega
  have HB0 := Lib.hid (one_alloc w (.cells #[.int .i64 4, .int .u64 n, .string s, .slice ao N c] 25)).2
  have HF0 := Lib.hid (Four.alloc w 4 n s (.slice ao N c))
  have HTK := Lib.hid (fun i (hi : i < (bxIs l).length) => countL_take kind (bxIs l) i hi)
  have HTL := Lib.hid (fun i => countL_le_take kind (bxIs l) i)
  have HFL : Hid (countL kind ((bxIs l).take N) = countL kind (bxIs l)) := Lib.hid (by rw [hN, ← bxIs_len, List.take_length])
  obtain ⟨c0, hc0⟩ : ∃ c0 : Nat, c0 = if kind = 4 then 1 else 0 := ⟨_, rfl⟩
  have HR : Hid (countB kind (bxI (.mk 4 n s l)) = c0 + countL kind (bxIs l)) := Lib.hid (by
    rw [bxI, if_neg (by omega), if_neg (by omega), if_neg (by omega), if_pos rfl, countB, hc0])
  have HM := Lib.hid (bxIs_map l)
  have HLN := Lib.hid (bxIs_len l)
  generalize bxIs l = bs at *
  have HN := Lib.hid hN
  have HSL := Lib.hid hsl
  have HIH := Lib.hid ih
  have HVL := Lib.hid hvl
  have HWI := Lib.hid (show ∀ x ∈ l, wI x ≤ 1073741824 from fun x hx => by have := wIs_mem hx; omega)
  have hc1 : c0 ≤ 1 := by rw [hc0]; split <;> omega
  obtain ⟨W1, hW1⟩ : ∃ W1, W1 = w.alloc (.cells #[.int .i64 4, .int .u64 n, .string s, .slice ao N c] 25) := ⟨_, rfl⟩
  rw [← hW1] at HB0 HF0
  have HW1 := Lib.hid hW1
  have hcase : ((4 : Int) == kind) = true ∧ Hid (c0 = 1) ∨ ((4 : Int) == kind) = false ∧ Hid (c0 = 0) := by
    by_cases hk : kind = 4
    · exact Or.inl ⟨by simp [hk], Lib.hid (by rw [hc0, if_pos hk])⟩
    · exact Or.inr ⟨by simp; omega, Lib.hid (by rw [hc0, if_neg hk])⟩
  clear hN hsl ih hw hv hvl hW1 hc0
  rcases hcase with ⟨hd, HC0⟩ | ⟨hd, HC0⟩
  all_goals
    go_enter Tryd.func18, Tryd.ntmps18
    go_wp2
    go_loopw [5, 6] (fun sd si wr => ∃ i : Nat, si = .int .i64 i ∧ i ≤ N ∧ sd = .int .i64 (c0 + countL kind (bs.take i) : Nat) ∧ Hid (Below W1.heap.size W1 wr)) (fun _ si _ => N - (intOf si).toNat)
    case atStart => exact ⟨0, rfl, Nat.zero_le _, by rw [HC0.out]; simp [countL], by rw [← HW1.out]; exact Lib.hid (Below.refl _ _)⟩
    case round =>
      obtain ⟨i, rfl, hi, rfl, hR⟩ := hrel
      have hf := HF0.out.keep hR.out
      have e0 := hf.c0
      have e3 := hf.c3
      have hbw : Below w.heap.size w wr := HB0.out.trans (hR.out.mono HB0.out.size)
      clear hf
      by_cases hlt : i < N
      · have hil : i < l.length := by rw [← HN.out]; exact hlt
        obtain ⟨b, o, k', n', s', ao', len', c', rfl, q0, q1, q2, q3, hx⟩ := item_at HSL.out hbw i hil
        have hst := HTK.out i (by rw [HLN.out]; exact hil)
        have hbi : bs[i]'(by rw [HLN.out]; exact hil) = bxI l[i] := by
          have := HM.out
          subst this
          rw [List.getElem_map]
        rw [hbi] at hst
        have h1 := HTL.out i
        have h2 := HTL.out (i + 1)
        have HC := Lib.hid (HIH.out l[i] (List.getElem_mem hil) S _ kind _ hx (HVL.out _ (List.getElem_mem hil)) (HWI.out _ (List.getElem_mem hil)))
        have hmx : countB kind (bxI l[i]) ≤ 1073741824 := by omega
        obtain ⟨d, hd⟩ : ∃ d, d = countB kind (bxI l[i]) := ⟨_, rfl⟩
        rw [← hd] at HC hst hmx
        have HST := Lib.hid hst
        have h3 : c0 + countL kind (bs.take i) ≤ 1073741825 := by omega
        clear hx hst hbi hd h1 h2 hbw
        obtain ⟨m1, hm1⟩ : ∃ m1, m1 = countL kind (bs.take (i + 1)) := ⟨_, rfl⟩
        rw [← hm1] at HST
        have HM1 := Lib.hid hm1
        clear hm1
        obtain ⟨m0, hm0⟩ : ∃ m0, m0 = countL kind (bs.take i) := ⟨_, rfl⟩
        rw [← hm0] at HST h3 ⊢
        clear hm0
        obtain ⟨m, hm⟩ : ∃ m, m = c0 + m0 := ⟨_, rfl⟩
        rw [← hm] at h3 ⊢
        have HSM := Lib.hid hm
        clear hm
        go_wp2_with fail
        refine HC.out.mono ?_
        rintro e w2 ⟨rfl, hb2⟩
        have H := Lib.hid (hR.out.trans (hb2.mono hR.out.size))
        clear hb2
        go_wp2
        go_roundw
        case rel => exact ⟨i + 1, by go_num, by omega, by rw [← HM1.out, HST.out, ← Nat.add_assoc, ← HSM.out]; go_num, H⟩
        case measure => simp [intOf]; omega
      · obtain rfl : i = N := by omega
        rw [HFL.out]
        have HBW := Lib.hid hbw
        clear hbw
        obtain ⟨m, hm⟩ : ∃ m, m = c0 + countL kind bs := ⟨_, rfl⟩
        rw [← hm] at HR ⊢
        clear hm
        go_wp2
        go_ret
        exact ⟨by rw [HR.out]; rfl, HBW.out⟩

theorem rcount_any (x : Itm) : RCountOk x := by
  induction x using Itm.ind with
  | h k n s l ih =>
    by_cases h4 : k = 4
    · subst h4
      exact rcount_list n s l ih
    · exact rcount_plain k n s l h4
end Go.Proofs.YtbghemndcndhpaaDoor
