/- The document's own 'part' (bowerref02): a piece's part of the quote. Condition: the piece is not empty. -/
import Derived.Test.YtbghemndcndhpaaDoorQuoteRefB
namespace Go.Proofs.YtbghemndcndhpaaDoor
open Go.RowKit

def RPartGives (w w' : World) (e : Ending) (r : List UInt8) : Prop := e = .returned (.string (txt r)) ∧ w = w'

section
variable (S : ByteArray) (st : Bool) (w : World) (h : 0 < S.size)

theorem rpart_hex (hr : st = true ∨ S.size = 1 ∧ ((S[0]'h).toNat < 32 ∨ (S[0]'h).toNat = 127)) : rpart S.data.toList st = [92, 120, hexd ((S[0]'h).toNat / 16), hexd ((S[0]'h).toNat % 16)] := by
  unfold rpart
  rw [gb_at h, len_toList, if_pos hr]

set_option maxHeartbeats 1600000 in
set_option maxRecDepth 100000 in
theorem rpart_a (hr : st = true ∨ S.size = 1 ∧ ((S[0]'h).toNat < 32 ∨ (S[0]'h).toNat = 127)) :
    Calls Tryd.prog 38 #[.string S, .bool st] w fun e w' => RPartGives w w' e (rpart S.data.toList st) := by
  have hb := (S[0]'h).toNat_lt
  have HX := Lib.hid (rpart_hex S st h hr)
  have H1 : ∀ z w, z = (((S[0]'h).toNat / 16 : Nat) : Int) → Hid (Calls Tryd.prog 45 #[.int .i64 z] w fun e w' => e = .returned (.string (txt [hexd ((S[0]'h).toNat / 16)])) ∧ w = w') := fun z w hz => Lib.hid (digit_any z _ hz (by omega) w)
  have H2 : ∀ z w, z = (((S[0]'h).toNat % 16 : Nat) : Int) → Hid (Calls Tryd.prog 45 #[.int .i64 z] w fun e w' => e = .returned (.string (txt [hexd ((S[0]'h).toNat % 16)])) ∧ w = w') := fun z w hz => Lib.hid (digit_any z _ hz (by omega) w)
  have hcat : txt [92, 120, hexd ((S[0]'h).toNat / 16), hexd ((S[0]'h).toNat % 16)] = (⟨#[92, 120]⟩ : ByteArray) ++ txt [hexd ((S[0]'h).toNat / 16)] ++ txt [hexd ((S[0]'h).toNat % 16)] := by
    rw [show (⟨#[92, 120]⟩ : ByteArray) = txt [92, 120] from rfl, txt_append, txt_append]; rfl
  have d1 : (txt [hexd ((S[0]'h).toNat / 16)]).size = 1 := txt_size _
  have d2 : (txt [hexd ((S[0]'h).toNat % 16)]).size = 1 := txt_size _
  have HC := Lib.hid hcat
  clear hcat
  generalize txt [hexd ((S[0]'h).toNat / 16)] = D1 at *
  generalize txt [hexd ((S[0]'h).toNat % 16)] = D2 at *
  have hi : (0 : Int) < S.size := by omega
  have g0 : ((S[0]'h).toNat : Int) < 256 := by omega
  have hcase : st = true ∨ (st = false ∧ ((S.size : Int) == 1) = true ∧ ((S[0]'h).toNat : Int) < 32) ∨ (st = false ∧ ((S.size : Int) == 1) = true ∧ 32 ≤ ((S[0]'h).toNat : Int) ∧ (((S[0]'h).toNat : Int) == 127) = true) := by
    cases st with
    | true => exact Or.inl rfl
    | false =>
      right
      rcases hr with e | ⟨e1, e2⟩
      · simp at e
      · have e3 : ((S.size : Int) == 1) = true := by simp; omega
        by_cases e4 : (S[0]'h).toNat < 32
        · exact Or.inl ⟨rfl, e3, by omega⟩
        · exact Or.inr ⟨rfl, e3, by omega, by simp; omega⟩
  clear hr
  rcases hcase with rfl | ⟨rfl, k1, k2⟩ | ⟨rfl, k1, k2, k3⟩
  all_goals
    go_enter Tryd.func38, Tryd.ntmps38
    go_wp2_with fail
    refine (H1 _ _ (by omega)).out.mono ?_
    rintro e w1 ⟨rfl, rfl⟩
    go_wp2_with fail
    refine (H2 _ _ (by omega)).out.mono ?_
    rintro e w1 ⟨rfl, rfl⟩
    go_wp2
    go_ret
    exact ⟨ret_val (congrArg Value.string (by rw [HX.out, HC.out])), rfl⟩

/-- The first test fails: it is a piece of one byte that shows itself, or one of several bytes. -/
def NotHex : Prop := ((S.size : Int) == 1) = true ∧ 32 ≤ ((S[0]'h).toNat : Int) ∧ (((S[0]'h).toNat : Int) == 127) = false ∨ ((S.size : Int) == 1) = false

theorem notHex (hr : ¬ (st = true ∨ S.size = 1 ∧ ((S[0]'h).toNat < 32 ∨ (S[0]'h).toNat = 127))) : st = false ∧ NotHex S h := by
  constructor
  · cases st with
    | true => exact absurd (Or.inl rfl) hr
    | false => rfl
  · unfold NotHex
    by_cases e : S.size = 1
    · left
      have hn : ¬ ((S[0]'h).toNat < 32 ∨ (S[0]'h).toNat = 127) := fun hx => hr (Or.inr ⟨e, hx⟩)
      exact ⟨by simp; omega, by omega, by simp; omega⟩
    · right; simp; omega

include h in
set_option maxHeartbeats 1600000 in
set_option maxRecDepth 100000 in
theorem rpart_b (hst : st = false) (hq : S = ⟨#[34]⟩ ∨ S = ⟨#[92]⟩) :
    Calls Tryd.prog 38 #[.string S, .bool st] w fun e w' => RPartGives w w' e (rpart S.data.toList st) := by
  subst hst
  have hx : rpart S.data.toList false = 92 :: S.data.toList := by
    rcases hq with rfl | rfl <;> decide +kernel
  have hcat : txt (92 :: S.data.toList) = (⟨#[92]⟩ : ByteArray) ++ S := by
    have h1 : S = txt S.data.toList := str_list S
    have h2 : (⟨#[92]⟩ : ByteArray) ++ txt S.data.toList = txt (92 :: S.data.toList) := by rw [show (⟨#[92]⟩ : ByteArray) = txt [92] from rfl, txt_append]; rfl
    rw [← h2, ← h1]
  have HX := Lib.hid hx
  have HC := Lib.hid hcat
  have hq2 : (S.toList == [34]) = true ∨ (S.toList == [34]) = false ∧ (S.toList == [92]) = true := by
    rw [ByteArray.toList_eq]
    rcases hq with rfl | rfl
    · left; rfl
    · right; exact ⟨rfl, rfl⟩
  have h1 : S.size = 1 := by rcases hq with rfl | rfl <;> rfl
  have h0 : (S[0]'h).toNat = 34 ∨ (S[0]'h).toNat = 92 := by
    rcases hq with rfl | rfl
    · left; rfl
    · right; rfl
  have hi : (0 : Int) < S.size := by omega
  have g0 : ((S[0]'h).toNat : Int) < 256 := by omega
  have k1 : ((S.size : Int) == 1) = true := by simp; omega
  have k2 : (32 : Int) ≤ ((S[0]'h).toNat : Int) := by omega
  have k3 : (((S[0]'h).toNat : Int) == 127) = false := by simp; omega
  have k4 : (S.size : Int) < 2 := by omega
  clear hx hcat hq h0 h1
  rcases hq2 with q1 | ⟨q1, q2⟩
  all_goals
    go_enter Tryd.func38, Tryd.ntmps38
    go_wp2
    all_goals first | (exfalso; omega) | go_ret
    all_goals exact ⟨ret_val (congrArg Value.string (by rw [HX.out, HC.out])), rfl⟩

theorem not_quote (hq : ¬ (S = ⟨#[34]⟩ ∨ S = ⟨#[92]⟩)) : (S.toList == [34]) = false ∧ (S.toList == [92]) = false ∧ ¬ (S.data.toList = [34] ∨ S.data.toList = [92]) := by
  have key : ¬ (S.data.toList = [34] ∨ S.data.toList = [92]) := by
    rintro (e | e)
    · exact hq (Or.inl (by rw [str_list S, e]))
    · exact hq (Or.inr (by rw [str_list S, e]))
  refine ⟨?_, ?_, key⟩
  · rw [beq_eq_false_iff_ne, ByteArray.toList_eq]; exact fun e => key (Or.inl e)
  · rw [beq_eq_false_iff_ne, ByteArray.toList_eq]; exact fun e => key (Or.inr e)

set_option maxHeartbeats 1600000 in
set_option maxRecDepth 100000 in
theorem rpart_c (h2 : S.size = 2) (hst : st = false) (h194 : (S[0]'h).toNat = 194) (h160 : (S[1]'(by omega)).toNat < 160) :
    Calls Tryd.prog 38 #[.string S, .bool st] w fun e w' => RPartGives w w' e (rpart S.data.toList st) := by
  subst hst
  have hq : ¬ (S = ⟨#[34]⟩ ∨ S = ⟨#[92]⟩) := by rintro (e | e) <;> (rw [e] at h2; simp [ByteArray.size] at h2)
  obtain ⟨q1, q2, q3⟩ := not_quote S hq
  have hp1 : 1 < S.size := by omega
  have hx : rpart S.data.toList false = [92, 117, 48, 48, hexd ((S[1]'(by omega)).toNat / 16), hexd ((S[1]'(by omega)).toNat % 16)] := by
    unfold rpart
    rw [gb_at h, gb_at hp1, len_toList, if_neg (by simp; omega), if_neg q3, if_pos ⟨h2, h194, h160⟩]
  have hb := (S[0]'h).toNat_lt
  have hb1 := (S[1]'(by omega)).toNat_lt
  have H1 : ∀ z w, z = (((S[1]'(by omega)).toNat / 16 : Nat) : Int) → Hid (Calls Tryd.prog 45 #[.int .i64 z] w fun e w' => e = .returned (.string (txt [hexd ((S[1]'(by omega)).toNat / 16)])) ∧ w = w') := fun z w hz => Lib.hid (digit_any z _ hz (by omega) w)
  have H2 : ∀ z w, z = (((S[1]'(by omega)).toNat % 16 : Nat) : Int) → Hid (Calls Tryd.prog 45 #[.int .i64 z] w fun e w' => e = .returned (.string (txt [hexd ((S[1]'(by omega)).toNat % 16)])) ∧ w = w') := fun z w hz => Lib.hid (digit_any z _ hz (by omega) w)
  have hcat : txt [92, 117, 48, 48, hexd ((S[1]'(by omega)).toNat / 16), hexd ((S[1]'(by omega)).toNat % 16)] = (⟨#[92, 117, 48, 48]⟩ : ByteArray) ++ txt [hexd ((S[1]'(by omega)).toNat / 16)] ++ txt [hexd ((S[1]'(by omega)).toNat % 16)] := by
    rw [show (⟨#[92, 117, 48, 48]⟩ : ByteArray) = txt [92, 117, 48, 48] from rfl, txt_append, txt_append]; rfl
  have d1 : (txt [hexd ((S[1]'(by omega)).toNat / 16)]).size = 1 := txt_size _
  have d2 : (txt [hexd ((S[1]'(by omega)).toNat % 16)]).size = 1 := txt_size _
  have HC := Lib.hid hcat
  have HX := Lib.hid hx
  clear hcat hx
  generalize txt [hexd ((S[1]'(by omega)).toNat / 16)] = D1 at *
  generalize txt [hexd ((S[1]'(by omega)).toNat % 16)] = D2 at *
  have k1 : ((S.size : Int) == 1) = false := by simp; omega
  have k2 : ((S.size : Int) == 2) = true := by simp; omega
  have k3 : (((S[0]'h).toNat : Int) == 194) = true := by simp; omega
  have k4 : ((S[1]'(by omega)).toNat : Int) < 160 := by omega
  have hi : (0 : Int) < S.size := by omega
  have hi1 : (1 : Int) < S.size := by omega
  have g0 : ((S[0]'h).toNat : Int) < 256 := by omega
  clear hq q3 h194 h160
  go_enter Tryd.func38, Tryd.ntmps38
  go_wp2_with fail
  refine (H1 _ _ (by omega)).out.mono ?_
  rintro e w1 ⟨rfl, rfl⟩
  go_wp2_with fail
  refine (H2 _ _ (by omega)).out.mono ?_
  rintro e w1 ⟨rfl, rfl⟩
  go_wp2
  all_goals go_ret
  all_goals exact ⟨ret_val (congrArg Value.string (by rw [HX.out, HC.out])), rfl⟩

set_option maxHeartbeats 1600000 in
set_option maxRecDepth 100000 in
theorem rpart_d (hr : ¬ (st = true ∨ S.size = 1 ∧ ((S[0]'h).toNat < 32 ∨ (S[0]'h).toNat = 127))) (hq : ¬ (S = ⟨#[34]⟩ ∨ S = ⟨#[92]⟩)) (hs : S.size ≤ 4)
    (hn : ¬ (S.size = 2 ∧ (S[0]'h).toNat = 194 ∧ gb S.data.toList 1 < 160)) :
    Calls Tryd.prog 38 #[.string S, .bool st] w fun e w' => RPartGives w w' e (rpart S.data.toList st) := by
  obtain ⟨q1, q2, q3⟩ := not_quote S hq
  have hx : rpart S.data.toList st = S.data.toList := by
    unfold rpart
    rw [gb_at h, len_toList, if_neg hr, if_neg q3, if_neg hn]
  obtain ⟨hst, hnh⟩ := notHex S st h hr
  subst hst
  have hS : S = txt S.data.toList := str_list S
  have HX := Lib.hid hx
  have HS := Lib.hid hS
  clear hx hS q3 hq
  have hi : (0 : Int) < S.size := by omega
  have hb := (S[0]'h).toNat_lt
  have g0 : ((S[0]'h).toNat : Int) < 256 := by omega
  unfold NotHex at hnh
  by_cases c2 : S.size = 2
  · have hp1 : 1 < S.size := by omega
    rw [gb_at hp1] at hn
    have hi1 : (1 : Int) < S.size := by omega
    have k1 : ((S.size : Int) == 1) = false := by simp; omega
    have k2 : ((S.size : Int) == 2) = true := by simp; omega
    have hcase : (((S[0]'h).toNat : Int) == 194) = false ∨ (((S[0]'h).toNat : Int) == 194) = true ∧ 160 ≤ ((S[1]'hp1).toNat : Int) := by
      by_cases e : (S[0]'h).toNat = 194
      · right; exact ⟨by simp; omega, by omega⟩
      · left; simp; omega
    clear hn hnh hr
    rcases hcase with k3 | ⟨k3, k4⟩
    all_goals
      go_enter Tryd.func38, Tryd.ntmps38
      go_wp2
      all_goals go_ret
      all_goals exact ⟨ret_val (congrArg Value.string (by rw [HX.out]; exact HS.out)), rfl⟩
  · have k2 : ((S.size : Int) == 2) = false := by simp; omega
    clear hn hr
    rcases hnh with ⟨k1, k3, k4⟩ | k1
    all_goals
      go_enter Tryd.func38, Tryd.ntmps38
      go_wp2
      all_goals go_ret
      all_goals exact ⟨ret_val (congrArg Value.string (by rw [HX.out]; exact HS.out)), rfl⟩

include h in
theorem rpart_any (hs : S.size ≤ 4) : Calls Tryd.prog 38 #[.string S, .bool st] w fun e w' => RPartGives w w' e (rpart S.data.toList st) := by
  by_cases hr : st = true ∨ S.size = 1 ∧ ((S[0]'h).toNat < 32 ∨ (S[0]'h).toNat = 127)
  · exact rpart_a S st w h hr
  by_cases hq : S = ⟨#[34]⟩ ∨ S = ⟨#[92]⟩
  · exact rpart_b S st w h (notHex S st h hr).1 hq
  by_cases hn : S.size = 2 ∧ (S[0]'h).toNat = 194 ∧ gb S.data.toList 1 < 160
  · obtain ⟨n1, n2, n3⟩ := hn
    rw [gb_at (show 1 < S.size by omega)] at n3
    exact rpart_c S st w h n1 (notHex S st h hr).1 n2 n3
  · exact rpart_d S st w h hr hq hs hn
end
end Go.Proofs.YtbghemndcndhpaaDoor
