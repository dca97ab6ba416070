/- (*sip.Eye).Num and Text at an eye that may have a fault, by plain functions of what is left and the fault. Condition: what has a fault has no bytes. -/
import Derived.Test.YtgckgagnodkhjaaRRRRDoorOpLives
import Derived.Test.YtgckgagnodkhjaaRRRRDoorSipRound
namespace Go.Proofs.YtgckgagnodkhjaaRRRRDoor
open Go.RowKit

/-- What is left, and the fault. -/
abbrev ES := List UInt8 × Int
def EyeS (w : World) (eb : Nat) (s : ES) : Prop := Eye w eb s.1 s.2 ∧ (s.2 ≠ 0 → s.1 = [])
/-- A number is read. -/
def eN (m : Nat) (s : ES) : Nat × ES := if s.2 = 0 then ((rnum m s.1).1, ((rnum m s.1).2.2, (rnum m s.1).2.1)) else (0, ([], s.2))
/-- A text is read. -/
def eT (m : Nat) (s : ES) : ByteArray × ES :=
  if s.2 = 0 then
    if (rnum 18446744073709551615 s.1).2.1 = 0 then
      if m < (rnum 18446744073709551615 s.1).1 then (⟨#[]⟩, ([], 10))
      else if (rnum 18446744073709551615 s.1).2.2.length < (rnum 18446744073709551615 s.1).1 then (⟨#[]⟩, ([], 11))
      else (⟨((rnum 18446744073709551615 s.1).2.2.take (rnum 18446744073709551615 s.1).1).toArray⟩, ((rnum 18446744073709551615 s.1).2.2.drop (rnum 18446744073709551615 s.1).1, 0))
    else (⟨#[]⟩, ([], (rnum 18446744073709551615 s.1).2.1))
  else (⟨#[]⟩, ([], s.2))

def ReadS (w w' : World) (eb : Nat) (s : ES) : Prop := EyeS w' eb s ∧ Ew eb w w'

set_option maxHeartbeats 1600000 in
set_option maxRecDepth 100000 in
theorem eyeNumF (eb m : Nat) (s : ES) (w : World) (he : EyeS w eb s) :
    Calls Tryd.prog 34 #[.pointer (some ⟨eb, 0, none⟩), .int .u64 m] w fun e w' => e = .returned (.int .u64 ((eN m s).1 : Nat)) ∧ ReadS w w' eb (eN m s).2 := by
  obtain ⟨bs, f⟩ := s
  obtain ⟨h1, h2⟩ := he
  simp only at h1 h2
  by_cases hf : f = 0
  · subst hf
    have hz := rnum_fault m bs
    have hE : eN m (bs, 0) = ((rnum m bs).1, ((rnum m bs).2.2, (rnum m bs).2.1)) := by unfold eN; rw [if_pos rfl]
    rw [hE]
    refine (eyeNum_any eb m bs w h1).mono fun e w' h => ?_
    obtain ⟨h3, h4, h5⟩ := h
    exact ⟨h3, ⟨h4, fun h => (hz h).2⟩, h5⟩
  · have hbs := h2 hf
    subst hbs
    have hE : eN m ([], f) = (0, ([], f)) := by unfold eN; rw [if_neg hf]
    rw [hE]
    have hg := gather_any eb f [] w h1
    rw [gat_end] at hg
    have hfb : (f == 0) = false := by rw [beq_eq_false_iff_ne]; exact hf
    have HG := Lib.hid hg
    have HF := Lib.hid hf
    clear hg h1 h2 hE hf
    go_enter Tryd.func34, Tryd.ntmps34
    go_wp2_with fail
    refine HG.out.mono ?_
    rintro e w1 ⟨rfl, ht⟩
    go_wp2_with fail
    refine (fail_again eb 11 f _ _ hfb ht.1).mono ?_
    rintro e w2 ⟨rfl, hk⟩
    go_wp2
    go_ret
    exact ⟨rfl, ⟨hk.1, fun _ => rfl⟩, ht.2.trans hk.2⟩

set_option maxHeartbeats 1600000 in
set_option maxRecDepth 100000 in
theorem eyeTextF (eb m : Nat) (s : ES) (w : World) (he : EyeS w eb s) (hm : m ≤ 9223372036854775807) :
    Calls Tryd.prog 28 #[.pointer (some ⟨eb, 0, none⟩), .int .i64 (m : Nat)] w fun e w' => e = .returned (.string (eT m s).1) ∧ ReadS w w' eb (eT m s).2 := by
  have hn := eyeNumF eb 18446744073709551615 s w he
  obtain ⟨R, hR⟩ : ∃ R, R = eT m s := ⟨_, rfl⟩
  rw [← hR]
  have hl : (eN 18446744073709551615 s).1 < 18446744073709551616 := by
    unfold eN
    split
    · exact rnum_lt _ _
    · show 0 < _; omega
  have hz : (eN 18446744073709551615 s).2.2 ≠ 0 → (eN 18446744073709551615 s).1 = 0 ∧ (eN 18446744073709551615 s).2.1 = [] := by
    unfold eN
    split
    · exact fun h => rnum_fault _ _ h
    · exact fun _ => ⟨rfl, rfl⟩
  have hE : R = (if (eN 18446744073709551615 s).2.2 = 0 then (if m < (eN 18446744073709551615 s).1 then (⟨#[]⟩, ([], 10)) else if (eN 18446744073709551615 s).2.1.length < (eN 18446744073709551615 s).1 then (⟨#[]⟩, ([], 11)) else (⟨((eN 18446744073709551615 s).2.1.take (eN 18446744073709551615 s).1).toArray⟩, ((eN 18446744073709551615 s).2.1.drop (eN 18446744073709551615 s).1, 0))) else (⟨#[]⟩, ([], (eN 18446744073709551615 s).2.2))) := by
    rw [hR]
    obtain ⟨bs, f⟩ := s
    unfold eT eN
    by_cases hf : f = 0
    · subst hf; rfl
    · simp only [if_neg hf]
  clear hR
  have HN := Lib.hid hn
  have HE := Lib.hid hE
  clear hn hE
  generalize eN 18446744073709551615 s = Q at *
  obtain ⟨n, r, f⟩ := Q
  simp only at hl hz HN HE
  by_cases hbig : m < n
  · have hf : f = 0 := by
      by_cases e : f = 0
      · exact e
      · have := (hz e).1; omega
    subst hf
    have hb1 : (m : Int) < (n : Int) := by omega
    have HR : Hid (R = (⟨#[]⟩, ([], 10))) := Lib.hid (by rw [HE.out, if_pos rfl, if_pos hbig])
    clear hz hbig
    go_enter Tryd.func28, Tryd.ntmps28
    go_wp2_with fail
    refine HN.out.mono ?_
    rintro e w1 ⟨rfl, ht⟩
    go_wp2_with fail
    refine (fail_first eb 10 _ _ ht.1.1).mono ?_
    rintro e w2 ⟨rfl, ht2⟩
    go_wp2
    go_ret
    rw [HR.out]
    exact ⟨rfl, ⟨ht2.1, fun _ => rfl⟩, ht.2.trans ht2.2⟩
  · have hb1 : ¬ (m : Int) < (n : Int) := by omega
    by_cases hlong : r.length < n
    · have hf : f = 0 := by
        by_cases e : f = 0
        · exact e
        · have h2 := hz e; rw [h2.2] at hlong; simp only [List.length_nil] at hlong; omega
      subst hf
      have HR : Hid (R = (⟨#[]⟩, ([], 11))) := Lib.hid (by rw [HE.out, if_pos rfl, if_neg hbig, if_pos hlong])
      clear hz
      go_enter Tryd.func28, Tryd.ntmps28
      go_wp2_with fail
      refine HN.out.mono ?_
      rintro e w1 ⟨rfl, ht0⟩
      have ht : Took w w1 eb r 0 := ⟨ht0.1.1, ht0.2⟩
      have hT := Lib.hid ht
      clear ht0
      obtain ⟨⟨v, h1, ao, c, rfl, hc1, hc2, h4⟩, _⟩ := ht
      have k0 := two_cell0 h1
      clear h1 h4
      go_wp2_with fail
      refine (fail_first eb 11 _ _ hT.out.1).mono ?_
      rintro e w2 ⟨rfl, ht2⟩
      go_wp2
      go_ret
      rw [HR.out]
      exact ⟨rfl, ⟨ht2.1, fun _ => rfl⟩, hT.out.2.trans ht2.2⟩
    · have hle : n ≤ r.length := by omega
      have HR : Hid (R = (⟨(r.take n).toArray⟩, (r.drop n, f))) := Lib.hid (by
        rw [HE.out]
        by_cases e : f = 0
        · subst e; rw [if_pos rfl, if_neg hbig, if_neg hlong]
        · obtain ⟨e1, e2⟩ := hz e
          rw [if_neg e, e1, e2]; rfl)
      have HZ : Hid (f ≠ 0 → r.drop n = []) := Lib.hid (fun e => by rw [(hz e).2]; simp)
      clear hz hbig hlong
      go_enter Tryd.func28, Tryd.ntmps28
      go_wp2_with fail
      refine HN.out.mono ?_
      rintro e w1 ⟨rfl, ht0⟩
      obtain ⟨⟨v, h1, ao, c, rfl, hc1, hc2, h4⟩, hew⟩ := (⟨ht0.1.1, ht0.2⟩ : Took w w1 eb r f)
      clear ht0
      have k0 := two_cell0 h1
      have f0 := two_free (i := 0) h1
      obtain ⟨hcv, htk⟩ := text_take hew h1 hc1 hc2 h4 hle
      have HTK := Lib.hid htk
      have H4 := Lib.hid h4
      clear h1 h4 htk hew
      by_cases hcn : c = n
      · subst hcn
        go_wp2
        go_ret
        have h := HTK.out ao (fun h => absurd h (by omega))
        rw [Nat.sub_self, show r.length - c = 0 by omega] at h
        rw [HR.out]
        exact ⟨rfl, ⟨h.1, HZ.out⟩, h.2⟩
      · go_wp2
        go_ret
        have h := HTK.out (Option.map (fun x => x.add n) ao) (fun h => by
          obtain ⟨g, o, e, _⟩ := H4.out (by intro e; rw [e] at h; simp at h)
          exact ⟨g, o, e, by rw [e, Option.map_some, add_at]⟩)
        rw [HR.out]
        exact ⟨rfl, ⟨h.1, HZ.out⟩, h.2⟩

set_option maxHeartbeats 1600000 in
/-- Text with a most below 0: a fault, if there is none yet. -/
theorem eyeTextNeg (eb : Nat) (s : ES) (w : World) (he : EyeS w eb s) :
    Calls Tryd.prog 28 #[.pointer (some ⟨eb, 0, none⟩), .int .i64 (-1)] w fun e w' => e = .returned (.string ⟨#[]⟩) ∧ ReadS w w' eb ([], if s.2 = 0 then 10 else s.2) := by
  obtain ⟨bs, f⟩ := s
  obtain ⟨h1, h2⟩ := he
  simp only at h1 h2 ⊢
  by_cases hf : f = 0
  · subst hf
    rw [if_pos rfl]
    go_enter Tryd.func28, Tryd.ntmps28
    go_wp2_with fail
    refine (fail_first eb 10 _ _ h1).mono ?_
    rintro e w2 ⟨rfl, ht2⟩
    go_wp2
    go_ret
    exact ⟨rfl, ⟨ht2.1, fun _ => rfl⟩, ht2.2⟩
  · rw [if_neg hf]
    have hfb : (f == 0) = false := by rw [beq_eq_false_iff_ne]; exact hf
    clear hf h2
    go_enter Tryd.func28, Tryd.ntmps28
    go_wp2_with fail
    refine (fail_again eb 10 f _ _ hfb h1).mono ?_
    rintro e w2 ⟨rfl, ht2⟩
    go_wp2
    go_ret
    exact ⟨rfl, ⟨ht2.1, fun _ => rfl⟩, ht2.2⟩
end Go.Proofs.YtgckgagnodkhjaaRRRRDoor
