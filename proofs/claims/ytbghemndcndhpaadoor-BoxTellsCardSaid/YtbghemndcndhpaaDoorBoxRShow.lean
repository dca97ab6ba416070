/- bowerref05.Digits, bowerref05.Show: an item shows as its box. Conditions: the item's numbers are numbers; at most 2^30 items and bytes. -/
import Derived.Test.YtbghemndcndhpaaDoorBoxCutL
import Derived.Test.YtbghemndcndhpaaDoorQuoteRPut
namespace Go.Proofs.YtbghemndcndhpaaDoor
open Go.RowKit

def DigitsOk (n : Nat) : Prop := ∀ (w : World), Calls Tryd.prog 30 #[.int .u64 n] w fun e w' => e = .returned (.string (txt (Lib.decDigits n))) ∧ Below w.heap.size w w'

set_option maxHeartbeats 2000000 in
set_option maxRecDepth 100000 in
theorem digits_small (n : Nat) (hn : n < 10) : DigitsOk n := by
  intro w
  obtain ⟨bt, hbt⟩ : ∃ bt : UInt8, bt = UInt8.ofNat (48 + n) := ⟨_, rfl⟩
  have HD : Hid (txt (Lib.decDigits n) = ⟨#[bt]⟩) := Lib.hid (by rw [Lib.decDigits_one hn, hbt]; rfl)
  have hi : ((n : Nat) : Int) < 10 := by omega
  have hb : bt.toNat = 48 + n := by rw [hbt]; simp; omega
  have hcv : (convert 61 9 (.slice (some ⟨w.heap.size, 0, none⟩) 1 1)).run Tryd.prog (w.alloc (.cells #[.int .u8 (48 + (n : Int))] 5)) = .ok (.string ⟨#[bt]⟩) (w.alloc (.cells #[.int .u8 (48 + (n : Int))] 5)) := by
    refine run_convert_bytes_back (P := Tryd.prog) _ 61 9 5 ⟨w.heap.size, 0, none⟩ 1 [bt] Tryd.underlying61 Tryd.underlying5 Tryd.underlying9 (fun j hj => ?_)
    have hj0 : j = 0 := by simpa using hj
    subst hj0
    rw [cells1 w _ _ 0 _ rfl]
    simp only [List.getElem_cons_zero, hb]
    rfl
  have HB := Lib.hid (alloc_below w (.cells #[.int .u8 (48 + (n : Int))] 5))
  clear hb hbt
  go_enter Tryd.func30, Tryd.ntmps30
  go_wp2
  go_ret
  exact ⟨by rw [HD.out]; rfl, HB.out⟩

set_option maxHeartbeats 2000000 in
set_option maxRecDepth 100000 in
theorem digits_big (n : Nat) (hn : 10 ≤ n) (hu : n < 18446744073709551616) (ih : DigitsOk (n / 10)) (ih2 : DigitsOk (n % 10)) : DigitsOk n := by
  intro w
  have HD : Hid (txt (Lib.decDigits n) = txt (Lib.decDigits (n / 10)) ++ txt (Lib.decDigits (n % 10))) := Lib.hid (by
    rw [txt_append, Lib.decDigits_one (i := n % 10) (by omega)]; rw [Lib.decDigits, dif_neg (show ¬ n < 10 by omega)])
  have h1 := digits_len (n := n / 10) (by omega)
  have h2 := digits_len (n := n % 10) (by omega)
  have s1 : (txt (Lib.decDigits (n / 10))).size ≤ 20 := by rw [txt_size]; exact h1
  have s2 : (txt (Lib.decDigits (n % 10))).size ≤ 20 := by rw [txt_size]; exact h2
  have HC1 := Lib.hid (ih w)
  have HC2 := Lib.hid ih2
  clear ih ih2 h1 h2
  generalize hd1 : txt (Lib.decDigits (n / 10)) = D1 at *
  generalize hd2 : txt (Lib.decDigits (n % 10)) = D2 at *
  have HD2 := Lib.hid hd2
  clear hd1 hd2
  go_enter Tryd.func30, Tryd.ntmps30
  go_wp2_with fail
  refine HC1.out.mono ?_
  rintro e w1 ⟨rfl, hb1⟩
  have HB1 := Lib.hid hb1
  have HC3 := Lib.hid (HC2.out w1)
  clear hb1
  go_wp2_with fail
  refine HC3.out.mono ?_
  rintro e w2 ⟨he, hb2⟩
  rw [HD2.out] at he
  subst he
  have H := Lib.hid (HB1.out.trans (hb2.mono HB1.out.size))
  clear hb2
  go_wp2
  go_ret
  exact ⟨by rw [HD.out]; rfl, H.out⟩

theorem digits_any (n : Nat) (hu : n < 18446744073709551616) : DigitsOk n := by
  by_cases h : n < 10
  · exact digits_small n h
  · exact digits_big n (by omega) hu (digits_any (n / 10) (by omega)) (digits_small (n % 10) (by omega))
termination_by n
decreasing_by omega

def RShowOk (x : Itm) : Prop := ∀ (S : Nat → Prop) (v : Value) (w : World), Sits S w x v → okI x → wI x ≤ 1073741824 →
  Calls Tryd.prog 16 #[v] w fun e w' => e = .returned (.string (txt (showB (bxI x)))) ∧ Below w.heap.size w w'

set_option maxHeartbeats 4000000 in
set_option maxRecDepth 100000 in
theorem rshow_plain (k n : Int) (s : ByteArray) (l : List Itm) (hk : k ≠ 4) : RShowOk (.mk k n s l) := by
  intro S v w hs hok hw
  rw [Sits] at hs
  obtain ⟨ao, c, rfl, hc, _⟩ := hs
  rw [okI] at hok
  rw [wI] at hw
  obtain ⟨m, rfl⟩ : ∃ m : Nat, n = m := ⟨n.toNat, by omega⟩
  obtain ⟨nl, hnl⟩ : ∃ nl, nl = l.length := ⟨_, rfl⟩
  rw [← hnl]
  have hm : (m : Int) < 18446744073709551616 := hok.1.2
  have e4 : (k == 4) = false := by simpa using hk
  have hs2 : s.size ≤ 1073741824 := by omega
  have HRX : Hid (showB (bxI (.mk k m s l)) = if k = 1 then (if (m : Int) % 2 = 1 then [121, 101, 115] else [110, 111]) else if k = 2 then Lib.decDigits m else if k = 3 then put s.data.toList else [45]) := Lib.hid (by
    rw [bxI, if_neg hk]
    by_cases h1 : k = 1
    · rw [if_pos h1, if_pos h1, showB]; simp
    rw [if_neg h1, if_neg h1]
    by_cases h2 : k = 2
    · rw [if_pos h2, if_pos h2, showB]; simp
    rw [if_neg h2, if_neg h2]
    by_cases h3 : k = 3
    · rw [if_pos h3, if_pos h3, showB]
    rw [if_neg h3, if_neg h3, showB])
  have HB0 := Lib.hid (one_alloc w (.cells #[.int .i64 k, .int .u64 (m : Nat), .string s, .slice ao nl c] 25)).2
  clear hok hw hnl hc hk
  by_cases h1 : k = 1
  · subst h1
    have HR := HRX.out.trans (if_pos rfl)
    clear HRX e4
    by_cases ho : (m : Int) % 2 = 1
    · have HR2 := Lib.hid (HR.trans (if_pos ho))
      have htm : (m : Int).tmod 2 = (m : Int) % 2 := Int.tmod_eq_emod_of_nonneg (by omega)
      have hd : ((m : Int) % 2 == 1) = true := by simpa using ho
      clear HR ho
      go_enter Tryd.func16, Tryd.ntmps16
      go_wp2
      go_ret
      exact ⟨by rw [HR2.out]; rfl, HB0.out⟩
    · have HR2 := Lib.hid (HR.trans (if_neg ho))
      have htm : (m : Int).tmod 2 = (m : Int) % 2 := Int.tmod_eq_emod_of_nonneg (by omega)
      have hd : ((m : Int) % 2 == 1) = false := by simpa using ho
      clear HR ho
      go_enter Tryd.func16, Tryd.ntmps16
      go_wp2
      go_ret
      exact ⟨by rw [HR2.out]; rfl, HB0.out⟩
  by_cases h2 : k = 2
  · subst h2
    have HR := Lib.hid (HRX.out.trans ((if_neg (by omega)).trans (if_pos rfl)))
    have HC := Lib.hid (digits_any m (by omega) (w.alloc (.cells #[.int .i64 2, .int .u64 (m : Nat), .string s, .slice ao nl c] 25)))
    clear HRX e4
    go_enter Tryd.func16, Tryd.ntmps16
    go_wp2_with fail
    refine HC.out.mono ?_
    rintro e w1 ⟨rfl, hb1⟩
    have H := Lib.hid (HB0.out.trans (hb1.mono HB0.out.size))
    clear hb1
    go_wp2
    go_ret
    exact ⟨by rw [HR.out]; rfl, H.out⟩
  by_cases h3 : k = 3
  · subst h3
    have HR := Lib.hid (HRX.out.trans ((if_neg (by omega)).trans ((if_neg (by omega)).trans (if_pos rfl))))
    have HC := Lib.hid (rput_any s (w.alloc (.cells #[.int .i64 3, .int .u64 (m : Nat), .string s, .slice ao nl c] 25)) hs2)
    clear HRX e4
    go_enter Tryd.func16, Tryd.ntmps16
    go_wp2_with fail
    refine HC.out.mono ?_
    rintro e w1 ⟨rfl, hb1⟩
    have H := Lib.hid (HB0.out.trans (hb1.mono HB0.out.size))
    clear hb1
    go_wp2
    go_ret
    exact ⟨by rw [HR.out]; rfl, H.out⟩
  have HR := Lib.hid (HRX.out.trans ((if_neg h1).trans ((if_neg h2).trans (if_neg h3))))
  have e1 : (k == 1) = false := by simpa using h1
  have e2 : (k == 2) = false := by simpa using h2
  have e3 : (k == 3) = false := by simpa using h3
  clear HRX h1 h2 h3
  go_enter Tryd.func16, Tryd.ntmps16
  go_wp2
  go_ret
  exact ⟨by rw [HR.out]; rfl, HB0.out⟩

theorem showB_len {l : List Itm} (hok : ∀ x ∈ l, okI x) : ∀ x ∈ l, (showB (bxI x)).length + 1 ≤ 30 * wI x := fun x hx => by
  have h1 := show_len (bxI x) (ok_bx x (hok x hx))
  have h2 := w_bx x
  omega

theorem wL_le_take (bs : List Bx) (i : Nat) : wL (bs.take i) ≤ wL bs := by
  induction bs generalizing i with
  | nil => simp
  | cons b bs ih =>
    cases i with
    | zero => simp [wL]
    | succ i =>
      rw [List.take_succ_cons, wL, wL]
      have := ih i
      omega

/-- What is shown of so many items. -/
def preS (l : List Itm) (i : Nat) : List UInt8 := 91 :: showL true ((bxIs l).take i)

theorem preS_step (l : List Itm) (i : Nat) (hi : i < l.length) : preS l (i + 1) = preS l i ++ (if i = 0 then [] else [32]) ++ showB (bxI l[i]) := by
  unfold preS
  have hi2 : i < (bxIs l).length := by rw [bxIs_len]; exact hi
  have h := showL_take (bxIs l) true i hi2
  have e : (bxIs l)[i] = bxI l[i] := by simp [bxIs_map]
  rw [h, e]
  simp

theorem preS_len (l : List Itm) (hok : ∀ x ∈ l, okI x) (i : Nat) : (preS l i).length ≤ 1 + 30 * wIs l := by
  unfold preS
  have h1 : (showL true ((bxIs l).take i)).length ≤ 30 * wL ((bxIs l).take i) := showL_len (fun b hb => by
    have hb2 := List.mem_of_mem_take hb
    rw [bxIs_map] at hb2
    obtain ⟨x, hx, rfl⟩ := List.mem_map.1 hb2
    exact show_len _ (ok_bx x (hok x hx))) true
  have h2 := wL_le_take (bxIs l) i
  have h3 := wL_bxIs l
  simp only [List.length_cons]
  omega
end Go.Proofs.YtbghemndcndhpaaDoor
