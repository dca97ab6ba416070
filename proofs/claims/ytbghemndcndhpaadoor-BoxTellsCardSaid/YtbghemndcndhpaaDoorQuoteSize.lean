/- The document's own 'within' and 'Size' (bowerref02): how many bytes the rune at a place has. Condition: the place is within the text. -/
import Derived.Test.YtbghemndcndhpaaDoorQuoteTxt
import Derived.BigGuardPart
namespace Go.Proofs.YtbghemndcndhpaaDoor
open Go.RowKit

theorem wi_drop (l : List UInt8) (p k f t : Nat) : wi (l.drop p) k f t = wi l (p + k) f t := by
  unfold wi gb
  rw [List.getElem?_drop, List.length_drop]
  congr 2
  congr 1
  apply propext
  omega

set_option maxHeartbeats 800000 in
theorem within_any (s : ByteArray) (i f t : Nat) (w : World) :
    Calls Tryd.prog 52 #[.string s, .int .i64 i, .int .u8 f, .int .u8 t] w fun e w' => e = .returned (.bool (wi s.data.toList i f t)) ∧ w = w' := by
  have hl := len_toList s
  by_cases h : i < s.size
  · have hg := gb_at h
    by_cases h1 : f ≤ (s[i]'h).toNat
    · by_cases h2 : (s[i]'h).toNat ≤ t
      · have hw : wi s.data.toList i f t = true := by unfold wi; rw [hg, hl]; simp [h, h1, h2]
        have HW := Lib.hid hw
        clear hw hg hl
        go_enter Tryd.func52, Tryd.ntmps52
        go_wp2
        all_goals go_ret
        all_goals exact ⟨ret_bool (by rw [HW.out] <;> simp <;> omega), rfl⟩
      · have hw : wi s.data.toList i f t = false := by unfold wi; rw [hg, hl]; simp [h, h1, h2]
        have HW := Lib.hid hw
        clear hw hg hl
        go_enter Tryd.func52, Tryd.ntmps52
        go_wp2
        all_goals go_ret
        all_goals exact ⟨ret_bool (by rw [HW.out] <;> simp <;> omega), rfl⟩
    · have hw : wi s.data.toList i f t = false := by unfold wi; rw [hg, hl]; simp [h1]
      have HW := Lib.hid hw
      clear hw hg hl
      go_enter Tryd.func52, Tryd.ntmps52
      go_wp2
      all_goals go_ret
      all_goals exact ⟨ret_bool (by rw [HW.out] <;> simp <;> omega), rfl⟩
  · have hw : wi s.data.toList i f t = false := by unfold wi; rw [hl]; simp [h]
    have HW := Lib.hid hw
    clear hw hl
    go_enter Tryd.func52, Tryd.ntmps52
    go_wp2
    all_goals go_ret
    all_goals exact ⟨ret_bool (by rw [HW.out] <;> simp <;> omega), rfl⟩

theorem within_at (s : ByteArray) (pos k : Nat) (i f t : Int) (f' t' : Nat) (hi : i = ((pos + k : Nat) : Int)) (hf : f = f') (ht : t = t') (b : Bool) (hb : wi (s.data.toList.drop pos) k f' t' = b) (w : World) :
    Calls Tryd.prog 52 #[.string s, .int .i64 i, .int .u8 f, .int .u8 t] w fun e w' => e = .returned (.bool b) ∧ w = w' := by
  subst hi hf ht
  have h := within_any s (pos + k) f' t' w
  rw [← wi_drop, hb] at h
  exact h

section
variable (s : ByteArray) (pos : Nat) (w : World) (h : pos < s.size)

def SizeGives (s : ByteArray) (pos : Nat) (w w' : World) (e : Ending) : Prop := e = .returned (.int .i64 (sz (s.data.toList.drop pos) : Nat)) ∧ w = w'

theorem size_ret {s : ByteArray} {pos n : Nat} (w : World) (z : Int) (hz : sz (s.data.toList.drop pos) = n) (hn : z = n) : SizeGives s pos w w (.returned (.int .i64 z)) := by
  subst hn; exact ⟨by rw [hz], rfl⟩

include h in
set_option maxHeartbeats 1600000 in
set_option maxRecDepth 100000 in
theorem size_small (hb : (s[pos]'h).toNat < 128) : Calls Tryd.prog 44 #[.string s, .int .i64 pos] w fun e w' => SizeGives s pos w w' e := by
  have hz : sz (s.data.toList.drop pos) = 1 := by unfold sz; rw [gb_drop h]; simp [hb]
  have HZ := Lib.hid hz
  clear hz
  go_enter Tryd.func44, Tryd.ntmps44
  go_wp2
  go_ret
  exact size_ret _ _ HZ.out rfl

include h in
set_option maxHeartbeats 1600000 in
set_option maxRecDepth 100000 in
theorem size_none (hb : 128 ≤ (s[pos]'h).toNat) (hb2 : (s[pos]'h).toNat < 194 ∨ 245 ≤ (s[pos]'h).toNat) : Calls Tryd.prog 44 #[.string s, .int .i64 pos] w fun e w' => SizeGives s pos w w' e := by
  have hz : sz (s.data.toList.drop pos) = 0 := by
    unfold sz; rw [gb_drop h]
    rw [if_neg (by omega), if_neg (by omega), if_neg (by omega), if_neg (by omega)]
  have HZ := Lib.hid hz
  clear hz
  have g1 : (128 : Int) ≤ ((s[pos]'h).toNat : Int) := by omega
  have g2 : ((s[pos]'h).toNat : Int) < 194 ∨ (245 : Int) ≤ ((s[pos]'h).toNat : Int) := by omega
  clear hb hb2
  rcases g2 with g2 | g2
  all_goals
    go_enter Tryd.func44, Tryd.ntmps44
    go_wp2
    all_goals go_ret
    all_goals first | exact size_ret _ _ HZ.out rfl | (exfalso; omega)

include h in
set_option maxHeartbeats 1600000 in
set_option maxRecDepth 100000 in
theorem size_two (hb : 194 ≤ (s[pos]'h).toNat) (hb2 : (s[pos]'h).toNat ≤ 223) (hs : s.size ≤ 8796093022208) : Calls Tryd.prog 44 #[.string s, .int .i64 pos] w fun e w' => SizeGives s pos w w' e := by
  have hz : sz (s.data.toList.drop pos) = if wi (s.data.toList.drop pos) 1 128 191 then 2 else 0 := by
    unfold sz; rw [gb_drop h]
    rw [if_neg (by omega), if_pos (by omega)]
  cases hc : wi (s.data.toList.drop pos) 1 128 191
  all_goals
    rw [hc] at hz
    have HZ := Lib.hid hz
    have HC := fun i hi w => Lib.hid (within_at s pos 1 i 128 191 128 191 hi rfl rfl _ hc w)
    have g1 : (194 : Int) ≤ ((s[pos]'h).toNat : Int) := by omega
    have g2 : ((s[pos]'h).toNat : Int) ≤ 223 := by omega
    clear hz hc hb hb2
    go_enter Tryd.func44, Tryd.ntmps44
    go_wp2_with fail
    refine (HC _ (by omega) _).out.mono ?_
    rintro e w1 ⟨rfl, rfl⟩
    go_wp2
    go_ret
    exact size_ret _ _ HZ.out rfl

include h in
set_option maxHeartbeats 1600000 in
set_option maxRecDepth 100000 in
theorem size_three (f t : Nat) (hb : 224 ≤ (s[pos]'h).toNat) (hb2 : (s[pos]'h).toNat ≤ 239) (hf : f = if (s[pos]'h).toNat = 224 then 160 else 128) (ht : t = if (s[pos]'h).toNat = 237 then 159 else 191) (hs : s.size ≤ 8796093022208) : Calls Tryd.prog 44 #[.string s, .int .i64 pos] w fun e w' => SizeGives s pos w w' e := by
  have hz : sz (s.data.toList.drop pos) = if wi (s.data.toList.drop pos) 1 f t && wi (s.data.toList.drop pos) 2 128 191 then 3 else 0 := by
    unfold sz; rw [gb_drop h]
    rw [if_neg (by omega), if_neg (by omega), if_pos (by omega), hf, ht]
  have g1 : (224 : Int) ≤ ((s[pos]'h).toNat : Int) := by omega
  have g2 : ((s[pos]'h).toNat : Int) ≤ 239 := by omega
  have g3 : ((((s[pos]'h).toNat : Int) == 224) = true ∧ (((s[pos]'h).toNat : Int) == 237) = false ∧ f = 160 ∧ t = 191) ∨ ((((s[pos]'h).toNat : Int) == 224) = false ∧ (((s[pos]'h).toNat : Int) == 237) = true ∧ f = 128 ∧ t = 159) ∨ ((((s[pos]'h).toNat : Int) == 224) = false ∧ (((s[pos]'h).toNat : Int) == 237) = false ∧ f = 128 ∧ t = 191) := by
    by_cases c1 : (s[pos]'h).toNat = 224
    · left; rw [if_pos c1] at hf; rw [if_neg (by omega)] at ht; refine ⟨by simp; omega, by simp; omega, hf, ht⟩
    · rw [if_neg c1] at hf
      by_cases c2 : (s[pos]'h).toNat = 237
      · right; left; rw [if_pos c2] at ht; refine ⟨by simp; omega, by simp; omega, hf, ht⟩
      · right; right; rw [if_neg c2] at ht; refine ⟨by simp; omega, by simp; omega, hf, ht⟩
  clear hb hb2 hf ht
  rcases g3 with ⟨d1, d2, rfl, rfl⟩ | ⟨d1, d2, rfl, rfl⟩ | ⟨d1, d2, rfl, rfl⟩
  all_goals
    cases hc : wi (s.data.toList.drop pos) 1 _ _
    · rw [hc] at hz
      have HZ := Lib.hid hz
      have HC := fun i f t hi hf ht w => Lib.hid (within_at s pos 1 i f t _ _ hi hf ht _ hc w)
      clear hz hc
      go_enter Tryd.func44, Tryd.ntmps44
      go_wp2_with fail
      refine (HC _ _ _ (by omega) rfl rfl _).out.mono ?_
      rintro e w1 ⟨rfl, rfl⟩
      go_wp2
      all_goals go_ret
      all_goals first | exact size_ret _ _ HZ.out rfl | (exfalso; omega)
    · cases hc2 : wi (s.data.toList.drop pos) 2 128 191
      all_goals
        rw [hc, hc2] at hz
        have HZ := Lib.hid hz
        have HC := fun i f t hi hf ht w => Lib.hid (within_at s pos 1 i f t _ _ hi hf ht _ hc w)
        have HD := fun i f t hi hf ht w => Lib.hid (within_at s pos 2 i f t _ _ hi hf ht _ hc2 w)
        clear hz hc hc2
        go_enter Tryd.func44, Tryd.ntmps44
        go_wp2_with fail
        refine (HC _ _ _ (by omega) rfl rfl _).out.mono ?_
        rintro e w1 ⟨rfl, rfl⟩
        go_wp2_with fail
        refine (HD _ _ _ (by omega) rfl rfl _).out.mono ?_
        rintro e w1 ⟨rfl, rfl⟩
        go_wp2
        all_goals go_ret
        all_goals first | exact size_ret _ _ HZ.out rfl | (exfalso; omega)

include h in
set_option maxHeartbeats 4000000 in
set_option maxRecDepth 100000 in
theorem size_four (f t : Nat) (hb : 240 ≤ (s[pos]'h).toNat) (hb2 : (s[pos]'h).toNat ≤ 244) (hf : f = if (s[pos]'h).toNat = 240 then 144 else 128) (ht : t = if (s[pos]'h).toNat = 244 then 143 else 191) (hs : s.size ≤ 8796093022208) : Calls Tryd.prog 44 #[.string s, .int .i64 pos] w fun e w' => SizeGives s pos w w' e := by
  have hz : sz (s.data.toList.drop pos) = if wi (s.data.toList.drop pos) 1 f t && wi (s.data.toList.drop pos) 2 128 191 && wi (s.data.toList.drop pos) 3 128 191 then 4 else 0 := by
    unfold sz; rw [gb_drop h]
    rw [if_neg (by omega), if_neg (by omega), if_neg (by omega), if_pos (by omega), hf, ht]
  have g1 : (240 : Int) ≤ ((s[pos]'h).toNat : Int) := by omega
  have g2 : ((s[pos]'h).toNat : Int) ≤ 244 := by omega
  have g3 : ((((s[pos]'h).toNat : Int) == 240) = true ∧ (((s[pos]'h).toNat : Int) == 244) = false ∧ f = 144 ∧ t = 191) ∨ ((((s[pos]'h).toNat : Int) == 240) = false ∧ (((s[pos]'h).toNat : Int) == 244) = true ∧ f = 128 ∧ t = 143) ∨ ((((s[pos]'h).toNat : Int) == 240) = false ∧ (((s[pos]'h).toNat : Int) == 244) = false ∧ f = 128 ∧ t = 191) := by
    by_cases c1 : (s[pos]'h).toNat = 240
    · left; rw [if_pos c1] at hf; rw [if_neg (by omega)] at ht; refine ⟨by simp; omega, by simp; omega, hf, ht⟩
    · rw [if_neg c1] at hf
      by_cases c2 : (s[pos]'h).toNat = 244
      · right; left; rw [if_pos c2] at ht; refine ⟨by simp; omega, by simp; omega, hf, ht⟩
      · right; right; rw [if_neg c2] at ht; refine ⟨by simp; omega, by simp; omega, hf, ht⟩
  clear hb hb2 hf ht
  rcases g3 with ⟨d1, d2, rfl, rfl⟩ | ⟨d1, d2, rfl, rfl⟩ | ⟨d1, d2, rfl, rfl⟩
  all_goals
    cases hc : wi (s.data.toList.drop pos) 1 _ _
    · rw [hc] at hz
      have HZ := Lib.hid hz
      have HC := fun i f t hi hf ht w => Lib.hid (within_at s pos 1 i f t _ _ hi hf ht _ hc w)
      clear hz hc
      go_enter Tryd.func44, Tryd.ntmps44
      go_wp2_with fail
      refine (HC _ _ _ (by omega) rfl rfl _).out.mono ?_
      rintro e w1 ⟨rfl, rfl⟩
      go_wp2
      all_goals go_ret
      all_goals first | exact size_ret _ _ HZ.out rfl | (exfalso; omega)
    · cases hc2 : wi (s.data.toList.drop pos) 2 128 191
      · rw [hc, hc2] at hz
        have HZ := Lib.hid hz
        have HC := fun i f t hi hf ht w => Lib.hid (within_at s pos 1 i f t _ _ hi hf ht _ hc w)
        have HD := fun i f t hi hf ht w => Lib.hid (within_at s pos 2 i f t _ _ hi hf ht _ hc2 w)
        clear hz hc hc2
        go_enter Tryd.func44, Tryd.ntmps44
        go_wp2_with fail
        refine (HC _ _ _ (by omega) rfl rfl _).out.mono ?_
        rintro e w1 ⟨rfl, rfl⟩
        go_wp2_with fail
        refine (HD _ _ _ (by omega) rfl rfl _).out.mono ?_
        rintro e w1 ⟨rfl, rfl⟩
        go_wp2
        all_goals go_ret
        all_goals first | exact size_ret _ _ HZ.out rfl | (exfalso; omega)
      · cases hc3 : wi (s.data.toList.drop pos) 3 128 191
        all_goals
          rw [hc, hc2, hc3] at hz
          have HZ := Lib.hid hz
          have HC := fun i f t hi hf ht w => Lib.hid (within_at s pos 1 i f t _ _ hi hf ht _ hc w)
          have HD := fun i f t hi hf ht w => Lib.hid (within_at s pos 2 i f t _ _ hi hf ht _ hc2 w)
          have HE := fun i f t hi hf ht w => Lib.hid (within_at s pos 3 i f t _ _ hi hf ht _ hc3 w)
          clear hz hc hc2 hc3
          go_enter Tryd.func44, Tryd.ntmps44
          go_wp2_with fail
          refine (HC _ _ _ (by omega) rfl rfl _).out.mono ?_
          rintro e w1 ⟨rfl, rfl⟩
          go_wp2_with fail
          refine (HD _ _ _ (by omega) rfl rfl _).out.mono ?_
          rintro e w1 ⟨rfl, rfl⟩
          go_wp2_with fail
          refine (HE _ _ _ (by omega) rfl rfl _).out.mono ?_
          rintro e w1 ⟨rfl, rfl⟩
          go_wp2
          all_goals go_ret
          all_goals first | exact size_ret _ _ HZ.out rfl | (exfalso; omega)

include h in
theorem size_any (hs : s.size ≤ 8796093022208) : Calls Tryd.prog 44 #[.string s, .int .i64 pos] w fun e w' => SizeGives s pos w w' e := by
  by_cases c0 : (s[pos]'h).toNat < 128
  · exact size_small s pos w h c0
  by_cases c1 : 194 ≤ (s[pos]'h).toNat ∧ (s[pos]'h).toNat ≤ 223
  · exact size_two s pos w h c1.1 c1.2 hs
  by_cases c2 : 224 ≤ (s[pos]'h).toNat ∧ (s[pos]'h).toNat ≤ 239
  · exact size_three s pos w h _ _ c2.1 c2.2 rfl rfl hs
  by_cases c3 : 240 ≤ (s[pos]'h).toNat ∧ (s[pos]'h).toNat ≤ 244
  · exact size_four s pos w h _ _ c3.1 c3.2 rfl rfl hs
  · exact size_none s pos w h (by omega) (by omega)
end
end Go.Proofs.YtbghemndcndhpaaDoor
